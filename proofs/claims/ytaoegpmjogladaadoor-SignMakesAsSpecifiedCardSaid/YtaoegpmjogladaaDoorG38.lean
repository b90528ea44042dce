/-
  scoriaref03.levels.
-/
import Derived.Test.YtaoegpmjogladaaDoorG32
import Derived.Test.YtaoegpmjogladaaDoorG23
import Derived.Test.YtaoegpmjogladaaDoorG19
import Derived.Test.YtaoegpmjogladaaDoorG33
import Derived.Test.YtaoegpmjogladaaDoorG15
set_option linter.unusedVariables false
namespace Go.Proofs.YtaoegpmjogladaaDoor
open Go.RowKit WM

theorem Tryd.infoD : (Tryd.prog.info? 29).map (fun i => (i.zero, i.size, i.bytes)) = some (some (.agg #[.int .u8 0, .int .u8 0, .int .u8 0, .int .u8 0, .int .u8 0, .int .u8 0, .int .u8 0, .int .u8 0, .int .u8 0, .int .u8 0, .int .u8 0, .int .u8 0, .int .u8 0, .int .u8 0, .int .u8 0, .int .u8 0]), 16, 16) := by kernel_rfl
theorem Tryd.infoDs : (Tryd.prog.info? 70).map (fun i => (i.zero, i.size, i.bytes)) = some (some (.slice none 0 0), 1, 24) := by kernel_rfl

def dcells (l : List (List UInt8)) : List Value := l.flatMap bs
def levN (seed : List UInt8) (j n : Nat) : List (List UInt8) := (List.range n).map (nodeB seed j)
def levD (seed : List UInt8) (j n : Nat) : List Value := dcells (levN seed j n)
theorem levD_succ (seed : List UInt8) (j n : Nat) : levD seed j (n + 1) = levD seed j n ++ bs (nodeB seed j n) := by
  unfold levD dcells levN
  rw [List.range_succ, List.map_append, List.flatMap_append]; simp
theorem levD_length (seed : List UInt8) (j n : Nat) : (levD seed j n).length = 16 * n := by
  induction n with
  | zero => rfl
  | succ n ih => rw [levD_succ, List.length_append, ih, bs_length, nodeB_16]; omega
theorem levD_get (seed : List UInt8) (j : Nat) : ∀ n k, k < n → ∀ i v, (bs (nodeB seed j k))[i]? = some v → (levD seed j n)[16 * k + i]? = some v := by
  intro n
  induction n with
  | zero => intro k h; omega
  | succ n ih =>
    intro k hk i v hv
    have hi : i < 16 := by
      have := (List.getElem?_eq_some_iff.1 hv).1
      rw [bs_length, nodeB_16] at this; exact this
    have hl := levD_length seed j n
    rw [levD_succ]
    by_cases h : k < n
    · rw [List.getElem?_append_left (by omega)]
      exact ih k h i v hv
    · obtain rfl : k = n := by omega
      rw [List.getElem?_append_right (by omega), show 16 * k + i - (levD seed j k).length = i by omega]
      exact hv
/-- A level of the tree lies in a row of its own. -/
def LevAt (w : World) (B : Nat) (seed : List UInt8) (j n : Nat) (v : Value) : Prop := w.ownsRow B 29 16 v n (levD seed j n)
theorem LevAt.form {w : World} {B : Nat} {seed : List UInt8} {j n : Nat} {v : Value} (h : LevAt w B seed j n v) (hn : 0 < n) :
    ∃ g c, v = .slice (some ⟨g, 0, none⟩) n c ∧ g < w.heap.size ∧ B ≤ g ∧ ∀ k, k < n → w.rangeAt g (16 * k) (bs (nodeB seed j k)) := by
  obtain ⟨g, c, rfl, hb, hlt⟩ := World.ownsRow.form h hn
  refine ⟨g, c, rfl, hlt, hb, fun k hk i u hu => ?_⟩
  have := World.ownsRow.cells h (g := g) rfl (16 * k + i) u (levD_get seed j n k hk i u hu)
  rwa [Addr.add_lit, Nat.zero_add] at this
theorem own_ne {w : World} {B B' : Nat} {e e' : TypeId} {size size' n n' : Nat} {v v' : Value} {xs xs' : List Value} (h : w.ownsRow B e size v n xs) (h' : w.ownsRow B' e' size' v' n' xs') (hne : e ≠ e') (hn : 0 < n) : v.ownBlock ≠ v'.ownBlock := by
  rcases h.2 with ⟨_, h0⟩ | ⟨g, cap, cur, rfl, _, hh, _⟩
  · omega
  · intro he
    exact own_blk_ne h' hh (fun e => hne e.symm) he.symm
theorem own_grown {w w' : World} {B : Nat} {e : TypeId} {size n : Nat} {v : Value} {xs : List Value} {row : Option Nat} (h : w.ownsRow B e size v n xs) (hg : w.grownBy w' row) (hne : v.ownBlock ≠ row) : w'.ownsRow B e size v n xs := by
  refine ⟨h.1, ?_⟩
  rcases h.2 with h1 | ⟨g, cap, cur, rfl, hb, hh, h2⟩
  · exact .inl h1
  · exact .inr ⟨g, cap, cur, rfl, hb, (hg.block g (Blk.lt hh) (fun e => hne e)).trans hh, h2⟩

theorem fold_set : ∀ (cs : List Value) (pre : List Value) (zs : List Value), zs.length = cs.length →
    (cs.zipIdx pre.length).foldl (fun (a : Array Value) x => a.setIfInBounds x.snd x.fst) (pre ++ zs).toArray = (pre ++ cs).toArray := by
  intro cs
  induction cs with
  | nil => intro pre zs h; have : zs = [] := List.eq_nil_of_length_eq_zero (by simpa using h); subst this; rfl
  | cons c cs ih =>
    intro pre zs h
    match zs, h with
    | z :: zs, h =>
      rw [List.zipIdx_cons, List.foldl_cons]
      have e : (pre ++ z :: zs).toArray.setIfInBounds pre.length c = ((pre ++ [c]) ++ zs).toArray := by simp
      have h2 := ih (pre ++ [c]) zs (by simpa using h)
      rw [List.length_append] at h2
      simp only [e]
      simpa using h2
theorem fold_cells (cs : List Value) (h : cs.length = 16) (a0 a1 a2 a3 a4 a5 a6 a7 a8 a9 b0 b1 b2 b3 b4 b5 : Value) :
    cs.zipIdx.foldl (fun (a : Array Value) x => a.setIfInBounds x.snd x.fst) #[a0, a1, a2, a3, a4, a5, a6, a7, a8, a9, b0, b1, b2, b3, b4, b5] = cs.toArray :=
  fold_set cs [] [a0, a1, a2, a3, a4, a5, a6, a7, a8, a9, b0, b1, b2, b3, b4, b5] (by simp [h])
/-- A digest laid as a slice of one. -/
theorem reads_one {w : World} {cs : List Value} (h : cs.length = 16) : Reads (w.alloc (.cells cs.toArray 29)) (w.alloc (.cells cs.toArray 29)).heap.size 16 (some ⟨w.heap.size, 0, none⟩) 1 cs :=
  ⟨by rw [h], fun _ => ⟨_, rfl, by simp, cells_new w cs 29⟩⟩
theorem reads_v {w : World} (v : Value) : Reads (w.alloc (.cells #[v] 70)) (w.alloc (.cells #[v] 70)).heap.size 1 (some ⟨w.heap.size, 0, none⟩) 1 [v] :=
  ⟨rfl, fun _ => ⟨_, rfl, by simp, cells_new w [v] 70⟩⟩
/-- The levels that have been made. -/
structure Levs (w wq : World) (seed : List UInt8) (h l : Nat) (v : Value) (sl : List Value) : Prop where
  own : wq.ownsRow w.heap.size 70 1 v (l + 1) sl
  lev : ∀ j u, sl[j]? = some u → LevAt wq w.heap.size seed j (2 ^ (h - j)) u
  below : Below w.heap.size w wq
theorem Levs.len {w wq : World} {seed : List UInt8} {h l : Nat} {v : Value} {sl : List Value} (H : Levs w wq seed h l v sl) : sl.length = l + 1 := by
  have := H.own.1; omega
theorem Levs.past {w wq w2 : World} {seed : List UInt8} {h l : Nat} {v : Value} {sl : List Value} (H : Levs w wq seed h l v sl) (hb : Below wq.heap.size wq w2) : Levs w w2 seed h l v sl :=
  ⟨ownsRow_below H.own hb, fun j u hu => ownsRow_below (H.lev j u hu) hb, bt H.below hb⟩

theorem Levs.first {w wq : World} {seed : List UInt8} {h : Nat} {v : Value} (hv : LevAt wq w.heap.size seed 0 (2 ^ h) v) (hb : Below w.heap.size w wq) :
    Levs w (wq.alloc (.cells #[v] 70)) seed h 0 (.slice (some ⟨wq.heap.size, 0, none⟩) 1 1) [v] := by
  refine ⟨⟨rfl, .inr ⟨_, 1, #[v], rfl, hb.size, heap_alloc_new wq _, Nat.le_refl _, by decide, rfl, rfl⟩⟩, fun j u hu => ?_, ba hb _⟩
  match j with
  | 0 =>
    obtain rfl : v = u := by simpa using hu
    exact ownsRow_below hv (below_new _ _)
  | j + 1 => simp at hu
theorem Levs.more {w wq w2 : World} {seed : List UInt8} {h l : Nat} {v v2 x : Value} {sl : List Value} (H : Levs w wq seed h l v sl) (hx : LevAt wq w.heap.size seed (l + 1) (2 ^ (h - (l + 1))) x)
    (hown : w2.ownsRow w.heap.size 70 1 v2 (l + 1 + 1) (sl ++ [x])) (hg : (wq.alloc (.cells #[x] 70)).grownBy w2 v.ownBlock) : Levs w w2 seed h (l + 1) v2 (sl ++ [x]) := by
  have hal := below_new wq (.cells #[x] 70)
  have H2 := H.past hal
  refine ⟨hown, fun j u hu => ?_, H2.below.grown hg (by have := H.below.size; simp; omega) (fun k hk => (H2.own.lt k hk).1)⟩
  have hu2 : LevAt (wq.alloc (.cells #[x] 70)) w.heap.size seed j (2 ^ (h - j)) u := by
    by_cases hj : j < sl.length
    · rw [List.getElem?_append_left hj] at hu
      exact H2.lev j u hu
    · have hjl : j = l + 1 := by
        have := (List.getElem?_eq_some_iff.1 hu).1
        rw [List.length_append] at this
        have h1 := H.len
        simp at this
        omega
      subst hjl
      rw [List.getElem?_append_right (by have := H.len; omega)] at hu
      obtain rfl : x = u := by simpa [H.len] using hu
      exact ownsRow_below hx hal
  exact own_grown hu2 hg (own_ne hu2 H2.own (by decide) (Nat.pow_pos (by omega)))

attribute [local go_sem ↓] shut16
theorem loadMid (W : World) {g o : Nat} {x : List UInt8} (h : W.rangeAt g o (bs x)) (h0 : x.length = 16) : (ldS 29 (.pointer (some ⟨g, o, none⟩))).run Tryd.prog W = .ok (.agg (bs x).toArray) W := by
  unfold ldS
  simp only [Instr.loadAt, Instr.sureAddr, Sem.run_bind, Sem.run_pure, Result.andThen_ok]
  exact run_loadVar_mid W g o 29 (bs x) _ h Tryd.underlying29 rfl (by rw [bs_length, h0]; exact Tryd.size29)

set_option maxRecDepth 100000 in
set_option maxHeartbeats 16000000 in
theorem refLevels (seed : ByteArray) (h : Nat) (w : World) (hk : KT 1 w) (hs : seed.size ≤ 1000) (h6 : h ≤ 6) :
    Calls Tryd.prog 41 #[.string seed, .int .i64 (h : Int)] w fun e w' => ∃ v sl, e = .returned v ∧ Levs w w' seed.data.toList h h v sl := by
  obtain ⟨i0, hi, hz0, hz1, hz2⟩ := info_parts Tryd.infoD
  obtain ⟨i1, gi, gz0, gz1, gz2⟩ := info_parts Tryd.infoDs
  obtain ⟨N, hN⟩ : ∃ N, N = 2 ^ h := ⟨_, rfl⟩
  have hsh := shl1 h h6
  rw [← hN] at hsh
  have hN64 : N ≤ 64 := by
    have : 2 ^ h ≤ 2 ^ 6 := Nat.pow_le_pow_right (by omega) h6
    omega
  obtain ⟨sd, hsd⟩ : ∃ sd, sd = seed.data.toList := ⟨_, rfl⟩
  rw [← hsd]
  have HK := Lib.hid hk
  have HS := Lib.hid hs
  have HSD := Lib.hid hsd
  have HN := Lib.hid hN
  clear hk hs hsd hN
  go_enter Tryd.func41, Tryd.ntmps41
  go_wp2
  go_loopw [5, 6] (fun v i' wr => ∃ k : Nat, k ≤ N ∧ i' = .int .i64 k ∧ Hid (LevAt wr w.heap.size sd 0 k v ∧ Below w.heap.size w wr)) (fun _ i' _ => N - (intOf i').toNat)
  case atStart => exact ⟨0, by omega, rfl, World.ownsRow_nil _ _ _ _, Below.refl _ _⟩
  case round =>
    obtain ⟨k, hk, rfl, hh⟩ := hrel
    have hsz := hh.out.2.size
    by_cases hlt : k < N
    · obtain ⟨x, hx⟩ : ∃ x, x = nodeB sd 0 k := ⟨_, rfl⟩
      have hxl : x.length = 16 := by rw [hx]; exact nodeB_16 _ _ _
      have hcs := levD_succ sd 0 k
      rw [← hx] at hcs
      have hfold := fold_cells (bs x) (by rw [bs_length, hxl]) (.int .u8 0) (.int .u8 0) (.int .u8 0) (.int .u8 0) (.int .u8 0) (.int .u8 0) (.int .u8 0) (.int .u8 0) (.int .u8 0) (.int .u8 0) (.int .u8 0) (.int .u8 0) (.int .u8 0) (.int .u8 0) (.int .u8 0) (.int .u8 0)
      have hl1 : (bs x).length ≤ 16 := by rw [bs_length]; omega
      have hl2 : 16 ≤ (bs x).length := by rw [bs_length]; omega
      have HX := Lib.hid (show nodeB seed.data.toList 0 k = x by rw [hx, HSD.out])
      have HL16 := Lib.hid (show (bs x).length = 16 by rw [bs_length, hxl])
      have HCS := Lib.hid hcs
      clear hx hxl hcs
      go_wp2_with (first
        | (go_at_call 65; refine (refLeaf seed k _ (HK.out.below hh.out.2) HS.out (by omega) x HX.out).mono ?_; rintro e w1 ⟨rfl, hb1⟩; have HB1 := Lib.hid (bt hh.out.2 hb1); have HO1 := Lib.hid (ownsRow_below hh.out.1 hb1); have hs1 := HB1.out.size; clear hb1)
        | (at_builtin; go_loud (refine wpList_append_any _ rfl (.tmp 17) (.tmp 21) 70 rfl w.heap.size 29 i0 _ 16 16 Tryd.underlying70 hi hz0 hz1 hz2 rfl (by omega) _ _ _ rfl (ownsRow_below HO1.out (below_new _ _)) _ (some ⟨w1.heap.size, 0, none⟩) 1 1 (bs x) rfl (reads_one HL16.out) (bs_one _) (len_le (by omega)) (by omega) (by simp; omega) ?_); intro v3 w3 hown3 hgrow3 _; have HO3 := Lib.hid hown3; have HB3 := Lib.hid ((ba HB1.out _).grown hgrow3 (by simp; omega) (fun k hk => (HO1.out.lt k hk).1)); clear hown3 hgrow3))
      go_roundw
      case rel =>
        refine ⟨k + 1, by omega, by go_num, ?_, HB3.out⟩
        have h3 := HO3.out
        rw [← HCS.out] at h3
        exact h3
      case measure => simp [intOf]; omega
    · have hke : k = N := by omega
      subst hke
      have h1 := hh.out.1
      rw [HN.out] at h1
      have HF := Lib.hid (Levs.first h1 hh.out.2)
      obtain ⟨A5, c5, rfl, _⟩ := own_form hh.out.1
      have hge : k ≤ k := Nat.le_refl k
      clear hh hlt hsz hk h1 hN64
      go_wp2
      clear hsh
      generalize hw1 : World.alloc wr _ = w1
      rw [hw1] at HF
      obtain ⟨g1, hg1⟩ : ∃ g, g = wr.heap.size := ⟨_, rfl⟩
      rw [← hg1] at HF
      rw [← hg1]
      clear hw1 hg1
      go_loopw [7, 8] (fun o l' wq => ∃ l : Nat, l ≤ h ∧ l' = .int .i64 l ∧ Hid (∃ sl, Levs w wq sd h l o sl)) (fun _ l' _ => h - (intOf l').toNat)
      case atStart => exact ⟨0, by omega, rfl, _, HF.out⟩
      case round =>
        clear HF
        obtain ⟨l, hl, rfl, hq⟩ := hrel
        obtain ⟨wm, rfl⟩ : ∃ W : World, W = wr := ⟨_, rfl⟩
        obtain ⟨sl, hL⟩ := hq.out
        obtain ⟨go, co, hv, hgb, hgl⟩ := World.ownsRow.form hL.own (by omega)
        subst hv
        have HL := Lib.hid hL
        clear hq hL
        by_cases hlt : l < h
        · obtain ⟨M, hM⟩ : ∃ M, M = 2 ^ (h - (l + 1)) := ⟨_, rfl⟩
          have hM0 : 0 < M := by rw [hM]; exact Nat.pow_pos (by omega)
          have hMl : 2 ^ (h - l) = 2 * M := by rw [hM, show h - l = (h - (l + 1)) + 1 by omega, Nat.pow_succ]; omega
          have hM64 : M ≤ 64 := by
            have : 2 ^ (h - (l + 1)) ≤ 2 ^ 6 := Nat.pow_le_pow_right (by omega) (by omega)
            omega
          obtain ⟨u, hu⟩ : ∃ u, sl[l]? = some u := ⟨_, List.getElem?_eq_getElem (by rw [HL.out.len]; omega)⟩
          have hlev := HL.out.lev l u hu
          rw [hMl] at hlev
          obtain ⟨gl, cl, rfl, hglt, hgB, hrng⟩ := hlev.form (by omega)
          have hcell : wm.cell? ⟨go, l, none⟩ = some (.slice (some ⟨gl, 0, none⟩) (2 * M) cl) := by
            have := World.ownsRow.cells HL.out.own (g := go) rfl l _ hu
            rwa [Addr.add_lit, Nat.zero_add] at this
          have HRG := Lib.hid hrng
          have HCE := Lib.hid hcell
          have HM := Lib.hid hM
          clear hM hMl hu hlev hrng hcell
          go_wp2
          go_loopw [9, 10] (fun v k' wt => ∃ q : Nat, q ≤ M ∧ k' = .int .i64 ((2 * q : Nat) : Int) ∧ Hid (LevAt wt wm.heap.size sd (l + 1) q v ∧ Below wm.heap.size wm wt)) (fun _ k' _ => 2 * M - (intOf k').toNat)
          case atStart => exact ⟨0, by omega, rfl, World.ownsRow_nil _ _ _ _, Below.refl _ _⟩
          case round =>
            obtain ⟨q, hq, rfl, hh⟩ := hrel
            have hs0 := hh.out.2.size
            obtain ⟨i, hi'⟩ : ∃ i, i = 2 * q := ⟨_, rfl⟩
            rw [← hi']
            obtain ⟨j, hj⟩ : ∃ j, j = i + 1 := ⟨_, rfl⟩
            by_cases hqM : q < M
            · obtain ⟨a, ha⟩ : ∃ a, a = nodeB sd l i := ⟨_, rfl⟩
              obtain ⟨b, hb⟩ : ∃ b, b = nodeB sd l j := ⟨_, rfl⟩
              obtain ⟨y, hy⟩ : ∃ y, y = nodeB sd (l + 1) q := ⟨_, rfl⟩
              have hal : a.length = 16 := by rw [ha]; exact nodeB_16 _ _ _
              have hbl : b.length = 16 := by rw [hb]; exact nodeB_16 _ _ _
              have hyl : y.length = 16 := by rw [hy]; exact nodeB_16 _ _ _
              have hov : overB a b = y := by rw [hy, ha, hb, hj, hi']; rfl
              have hcs := levD_succ sd (l + 1) q
              rw [← hy] at hcs
              have HS3 : Hid (∀ W, Below wm.heap.size wm W → W.cell? ⟨go, l, none⟩ = some (.slice (some ⟨gl, 0, none⟩) (2 * M) cl) ∧ W.rangeAt gl (i * 16) (bs a) ∧ W.rangeAt gl (j * 16) (bs b)) := by
                intro W hW
                refine ⟨(hW.cell (p := ⟨go, l, none⟩) hgl).trans HCE.out, fun t u hu => ?_, fun t u hu => ?_⟩
                · rw [hW.cell (p := ⟨gl, i * 16 + t, none⟩) hglt, Nat.mul_comm]
                  rw [ha] at hu
                  exact HRG.out i (by omega) t u hu
                · rw [hW.cell (p := ⟨gl, j * 16 + t, none⟩) hglt, Nat.mul_comm]
                  rw [hb] at hu
                  exact HRG.out j (by omega) t u hu
              obtain ⟨cO, ra, rb⟩ := HS3.out wr hh.out.2
              have i1 : (l : Int) < (l : Int) + 1 := by omega
              have i3 : (i : Int) < 2 * (M : Int) := by omega
              have i4 : (j : Int) < 2 * (M : Int) := by omega
              have i5 : (i : Int) + 1 < 2 * (M : Int) := by omega
              have w1 : IntKind.i64.wrap ((i : Int) + 1) = (j : Int) := by rw [IntWalk.i64_in _ (by omega)]; omega
              have HI := Lib.hid hi'
              clear hj
              have HAL := Lib.hid hal
              have HBL := Lib.hid hbl
              have HOV := Lib.hid hov
              have HCS := Lib.hid hcs
              have hi128 : i ≤ 128 := by omega
              have hq64 : q ≤ 64 := by omega
              have hu29 := Tryd.underlying29
              have hsa : (Tryd.prog.info? 29).map (·.size) = some (bs a).length := by rw [bs_length, hal]; exact Tryd.size29
              have hsb : (Tryd.prog.info? 29).map (·.size) = some (bs b).length := by rw [bs_length, hbl]; exact Tryd.size29
              have hfold := fold_cells (bs y) (by rw [bs_length, hyl]) (.int .u8 0) (.int .u8 0) (.int .u8 0) (.int .u8 0) (.int .u8 0) (.int .u8 0) (.int .u8 0) (.int .u8 0) (.int .u8 0) (.int .u8 0) (.int .u8 0) (.int .u8 0) (.int .u8 0) (.int .u8 0) (.int .u8 0) (.int .u8 0)
              have hl0 : (bs y).length = 16 := by rw [bs_length, hyl]
              have hl1 : (bs y).length ≤ 16 := by rw [bs_length]; omega
              have hl2 : 16 ≤ (bs y).length := by rw [bs_length]; omega
              have HL16 := Lib.hid (show (bs y).length = 16 by rw [bs_length, hyl])
              clear hi' ha hb hy hal hbl hyl hov hcs
              go_wp2
              have r4 : ∀ (w : World) g t cs, Blk w.drew g t cs ↔ Blk w g t cs := fun _ _ _ _ => Iff.rfl
              have cO2 : wr.drew.cell? ⟨go, l, none⟩ = some (.slice (some ⟨gl, 0, none⟩) (2 * M) cl) := cO
              have la : (ldS 29 (.pointer (some ⟨gl, i * 16, none⟩))).run Tryd.prog wr.drew = .ok (.agg (bs a).toArray) wr.drew := loadMid wr.drew ra HAL.out
              have lb : (ldS 29 (.pointer (some ⟨gl, j * 16, none⟩))).run Tryd.prog wr.drew = .ok (.agg (bs b).toArray) wr.drew := loadMid wr.drew rb HBL.out
              go_region_law (first
                | (refine step_append_any _ rfl (.tmp 40) (.tmp 57) 70 rfl wm.heap.size 29 i0 _ 16 16 Tryd.underlying70 hi hz0 hz1 hz2 rfl (by omega) _ _ _ rfl (ownsRow_below HO3.out (below_new _ _)) _ (some ⟨w3.heap.size, 0, none⟩) 1 1 (bs y) rfl (reads_one HL16.out) (bs_one _) (len_le (by omega)) (by omega) (by have := HB3.out.size; simp; omega) ?_; intro v4 w4 hown4 hgrow4 _; have HO4 := Lib.hid hown4; have HB4 := Lib.hid ((ba HB3.out _).grown hgrow4 (by have := HB3.out.size; simp; omega) (fun k hk => (HO3.out.lt k hk).1)); clear hown4 hgrow4)
                | (go_simp; go_at_call 59; (refine (refNode a b wr.drew (HK.out.below (bt HL.out.below hh.out.2.drew)) HAL.out HBL.out y HOV.out).mono ?_); rintro e w3 ⟨rfl, hb3⟩; have HB3 := Lib.hid (below_then hh.out.2.drew hb3); have HO3 := Lib.hid (ownsRow_below (w := wr.drew) hh.out.1 hb3); clear hb3))
              all_goals
                go_wp2
                go_roundw
                case rel =>
                  refine ⟨q + 1, by omega, by have := HI.out; go_num, ?_, HB4.out⟩
                  have h3 := HO4.out
                  rw [← HCS.out] at h3
                  exact h3
                case measure => simp [intOf]; omega
            · have hqe : q = M := by omega
              subst hqe
              have hge2 : 2 * (q : Int) ≤ (i : Int) + 1 := by omega
              have hi128 : i ≤ 128 := by omega
              have cO : wr.cell? ⟨go, l, none⟩ = some (.slice (some ⟨gl, 0, none⟩) (2 * q) cl) := (hh.out.2.cell (p := ⟨go, l, none⟩) hgl).trans HCE.out
              have HLW := Lib.hid (hh.out.1)
              obtain ⟨A9, c9, rfl, _⟩ := own_form hh.out.1
              have HL2 := Lib.hid (HL.out.past hh.out.2)
              have HLV : Hid (LevAt wr w.heap.size sd (l + 1) (2 ^ (h - (l + 1))) (.slice A9 q c9)) := by
                rw [← HM.out]; exact ownsRow_base hh.out.1 HL.out.below.size
              have hsw := HL2.out.below.size
              have HI := Lib.hid hi'
              clear HLW hi' hj hqM hq hh
              go_wp2_with (at_builtin; go_loud (refine wpList_append_any _ rfl (.tmp 59) (.tmp 61) 73 rfl w.heap.size 70 i1 _ 1 24 Tryd.underlying73 gi gz0 gz1 gz2 rfl (by omega) _ _ _ rfl (ownsRow_below HL2.out.own (below_new _ _)) _ (some ⟨wr.heap.size, 0, none⟩) 1 1 [.slice A9 q c9] rfl (reads_v _) (by simp [Value.oneCell']) (len_le (by omega)) (by omega) (by simp; omega) ?_); intro v5 w5 hown5 hgrow5 _; have HL5 := Lib.hid (HL2.out.more HLV.out hown5 hgrow5); clear hown5 hgrow5)
              go_roundw
              case rel => exact ⟨l + 1, by omega, by go_num, _, HL5.out⟩
              case measure => simp [intOf]; omega
        · have hle : l = h := by omega
          subst hle
          go_wp2
          go_ret
          exact ⟨_, _, rfl, HL.out⟩
end Go.Proofs.YtaoegpmjogladaaDoor

/-
  scoriaref03.fits, Public, Sign.
-/
namespace Go.Proofs.YtaoegpmjogladaaDoor
open Go.RowKit WM

theorem rfits_yes (s : ByteArray) (h : Int) (w : World) (hs : s.size = 32) (h0 : 0 ≤ h) (h6 : h ≤ 6) : Calls Tryd.prog 40 #[.string s, .int .i64 h] w fun e w' => e = .returned (.bool true) ∧ w = w' := by
  have hb : ((s.size : Int) == 32) = true := by simp; omega
  clear hs
  go_enter Tryd.func40, Tryd.ntmps40
  go_wp2
  go_ret
  exact ⟨rfl, rfl⟩
theorem rfits_no (s : ByteArray) (h : Int) (w : World) (hn : ¬ (s.size = 32 ∧ 0 ≤ h ∧ h ≤ 6)) : Calls Tryd.prog 40 #[.string s, .int .i64 h] w fun e w' => e = .returned (.bool false) ∧ w = w' := by
  by_cases hs : s.size = 32
  · have hb : ((s.size : Int) == 32) = true := by simp; omega
    by_cases h0 : 0 ≤ h
    · have h6 : 6 < h := by omega
      clear hs hn
      go_enter Tryd.func40, Tryd.ntmps40
      go_wp2
      go_ret
      exact ⟨ret_no (by omega), rfl⟩
    · have h1 : h < 0 := by omega
      clear hs hn h0
      go_enter Tryd.func40, Tryd.ntmps40
      go_wp2
      go_ret
      exact ⟨rfl, rfl⟩
  · have hb : ((s.size : Int) == 32) = false := by simp; omega
    clear hs hn
    go_enter Tryd.func40, Tryd.ntmps40
    go_wp2
    go_ret
    exact ⟨rfl, rfl⟩

/-- The levels, to be read. -/
def RTree (W : World) (go h : Nat) (seed : List UInt8) : Prop :=
  ∀ j, j ≤ h → ∃ gl cl, W.cell? ⟨go, j, none⟩ = some (.slice (some ⟨gl, 0, none⟩) (2 ^ (h - j)) cl) ∧ ∀ k, k < 2 ^ (h - j) → W.rangeAt gl (k * 16) (bs (nodeB seed j k))
theorem Levs.tree {w wq : World} {seed : List UInt8} {h : Nat} {v : Value} {sl : List Value} (H : Levs w wq seed h h v sl) :
    ∃ go co, v = .slice (some ⟨go, 0, none⟩) (h + 1) co ∧ ∀ W, Below wq.heap.size wq W → RTree W go h seed := by
  obtain ⟨go, co, hv, hgb, hgl⟩ := World.ownsRow.form H.own (by omega)
  refine ⟨go, co, hv, fun W hW j hj => ?_⟩
  have H2 := H.past hW
  subst hv
  obtain ⟨u, hu⟩ : ∃ u, sl[j]? = some u := ⟨_, List.getElem?_eq_getElem (by rw [H.len]; omega)⟩
  obtain ⟨gl, cl, rfl, _, _, hr⟩ := (H2.lev j u hu).form (Nat.pow_pos (by omega))
  refine ⟨gl, cl, ?_, fun k hk => by rw [Nat.mul_comm]; exact hr k hk⟩
  have := World.ownsRow.cells H2.own (g := go) rfl j _ hu
  rwa [Addr.add_lit, Nat.zero_add] at this
theorem refLevels_is (seed : ByteArray) (h : Nat) (w : World) (hk : KT 1 w) (hs : seed.size ≤ 1000) (h6 : h ≤ 6) :
    Calls Tryd.prog 41 #[.string seed, .int .i64 (h : Int)] w fun e w' => ∃ go co, e = .returned (.slice (some ⟨go, 0, none⟩) (h + 1) co) ∧ (∀ W, Below w'.heap.size w' W → RTree W go h seed.data.toList) ∧ Below w.heap.size w w' := by
  refine (refLevels seed h w hk hs h6).mono ?_
  rintro e w' ⟨v, sl, rfl, H⟩
  obtain ⟨go, co, rfl, ht⟩ := H.tree
  exact ⟨go, co, rfl, ht, H.below⟩
theorem RTree.root {W : World} {go h : Nat} {seed : List UInt8} (H : RTree W go h seed) :
    ∃ gl cl, W.cell? ⟨go, h, none⟩ = some (.slice (some ⟨gl, 0, none⟩) 1 cl) ∧ W.rangeAt gl 0 (bs (rootB seed h)) := by
  obtain ⟨gl, cl, h1, h2⟩ := H h (Nat.le_refl _)
  rw [Nat.sub_self, Nat.pow_zero] at h1 h2
  have := h2 0 (by omega)
  rw [Nat.zero_mul] at this
  exact ⟨gl, cl, h1, this⟩

set_option maxRecDepth 100000 in
set_option maxHeartbeats 1000000 in
theorem rpublic_no (seed : ByteArray) (h : Int) (w : World) (hn : ¬ (seed.size = 32 ∧ 0 ≤ h ∧ h ≤ 6)) :
    Calls Tryd.prog 19 #[.string seed, .int .i64 h] w fun e w' => e = .returned (.tuple #[.agg (bs z16).toArray, .int .i64 1]) ∧ Below w.heap.size w w' := by
  have hz := Tryd.zero29
  have HN := Lib.hid hn
  have HS16 := Lib.hid (size16 z16_length)
  clear hn
  go_enter Tryd.func19, Tryd.ntmps19
  go_wp2_with (first
    | (go_at_call 40; refine (rfits_no seed h _ HN.out).mono ?_; rintro e w1 ⟨rfl, rfl⟩)
    | (refine wpList_store_row rfl 29 (.tmp 4) (.tmp 12) rfl w.heap.size (bs z16).toArray rfl rfl 29 _ (Blk.new w 29 _) HS16.out (by rw [sz16 z16_length]) (all_oneCell_toArray (bs_one _)) ?_))
  refine bodyPost_ret (results_cell_slot Tryd.results19 _ _ w.heap.size 29 (bs z16).toArray (0, 0) _ _ rfl ((Blk.new w 29 _).setRow _) Tryd.underlying29 rfl HS16.out rfl) rfl ⟨rfl, below_setRow (below_new _ _) (Nat.le_refl _) _⟩

set_option maxRecDepth 100000 in
set_option maxHeartbeats 2000000 in
theorem rpublic_yes (seed : ByteArray) (h : Nat) (w : World) (hk : KT 1 w) (hs : seed.size = 32) (h6 : h ≤ 6) (d : List UInt8) (hd : rootB seed.data.toList h = d) :
    Calls Tryd.prog 19 #[.string seed, .int .i64 (h : Int)] w fun e w' => e = .returned (.tuple #[.agg (bs d).toArray, .int .i64 0]) ∧ Below w.heap.size w w' := by
  have hz := Tryd.zero29
  have hdl : d.length = 16 := by rw [← hd]; exact nodeB_16 _ _ _
  have hsd : (Tryd.prog.info? 29).map (·.size) = some (bs d).length := by rw [bs_length, hdl]; exact Tryd.size29
  have HSD := Lib.hid hsd
  have HD := Lib.hid hd
  have HDL := Lib.hid hdl
  have HS := Lib.hid hs
  have HK := Lib.hid hk
  have HS16 := Lib.hid (size16 hdl)
  have i1 : (h : Int) < (h : Int) + 1 := by omega
  clear hs hk hd hdl hsd
  go_enter Tryd.func19, Tryd.ntmps19
  go_wp2_with (first
    | (go_at_call 40; refine (rfits_yes seed h _ HS.out (by omega) (by omega)).mono ?_; rintro e w1 ⟨rfl, rfl⟩)
    | (go_at_call 41; refine (refLevels_is seed h _ (HK.out.below (below_new _ _)) (by have := HS.out; omega) h6).mono ?_; rintro e w2 ⟨go, co, rfl, ht, hb2⟩; have HB2 := Lib.hid (bt (below_new _ _) hb2); have HO2 := Lib.hid (blk_past hb2 (Blk.new w 29 _)); obtain ⟨gl, cl, hc, hr⟩ := (ht w2 (Below.refl _ _)).root; rw [HD.out] at hr; have HR := Lib.hid hr; clear ht hb2 hr)
    | (refine wpList_load_mid rfl 29 (.tmp 19) rfl gl 0 rfl (bs d) _ HR.out Tryd.underlying29 rfl HSD.out ?_)
    | (refine wpList_store_row rfl 29 (.tmp 4) (.tmp 20) rfl w.heap.size (bs d).toArray rfl rfl 29 _ HO2.out HS16.out (by rw [sz16 HDL.out, sz16 z16_length]) (all_oneCell_toArray (bs_one _)) ?_))
  refine bodyPost_ret (results_cell_slot Tryd.results19 _ _ w.heap.size 29 (bs d).toArray (0, 0) _ _ rfl (HO2.out.setRow _) Tryd.underlying29 rfl HS16.out rfl) rfl ⟨rfl, below_setRow HB2.out (Nat.le_refl _) _⟩
end Go.Proofs.YtaoegpmjogladaaDoor

/-
  scoriaref03.Sign.
-/
namespace Go.Proofs.YtaoegpmjogladaaDoor
open Go.RowKit WM
attribute [local go_sem ↓] shut16

set_option maxRecDepth 100000 in
set_option maxHeartbeats 1000000 in
theorem rsign_arg (seed m : ByteArray) (h i : Int) (w : World) (hn : ¬ (seed.size = 32 ∧ 0 ≤ h ∧ h ≤ 6)) :
    Calls Tryd.prog 21 #[.string seed, .int .i64 h, .int .i64 i, .string m] w fun e w' => e = .returned (.tuple #[.string ⟨#[]⟩, .int .i64 1]) ∧ w = w' := by
  have HN := Lib.hid hn
  clear hn
  go_enter Tryd.func21, Tryd.ntmps21
  go_wp2_with (go_at_call 40; refine (rfits_no seed h _ HN.out).mono ?_; rintro e w1 ⟨rfl, rfl⟩)
  go_ret2
  exact ⟨rfl, rfl⟩

set_option maxRecDepth 100000 in
set_option maxHeartbeats 1000000 in
theorem rsign_spent (seed m : ByteArray) (h : Nat) (i : Int) (w : World) (hs : seed.size = 32) (h6 : h ≤ 6) (hi : i < 0 ∨ ((2 ^ h : Nat) : Int) ≤ i) :
    Calls Tryd.prog 21 #[.string seed, .int .i64 (h : Int), .int .i64 i, .string m] w fun e w' => e = .returned (.tuple #[.string ⟨#[]⟩, .int .i64 20]) ∧ w = w' := by
  have HS := Lib.hid hs
  have hsh := shl1 h h6
  obtain ⟨N, hN⟩ : ∃ N, N = 2 ^ h := ⟨_, rfl⟩
  rw [← hN] at hsh hi
  by_cases h0 : i < 0
  · clear hs hi hN hsh
    go_enter Tryd.func21, Tryd.ntmps21
    go_wp2_with (go_at_call 40; refine (rfits_yes seed h _ HS.out (by omega) (by omega)).mono ?_; rintro e w1 ⟨rfl, rfl⟩)
    go_ret2
    exact ⟨rfl, rfl⟩
  · have hNi : (N : Int) ≤ i := by omega
    clear hs hi hN
    go_enter Tryd.func21, Tryd.ntmps21
    go_wp2_with (go_at_call 40; refine (rfits_yes seed h _ HS.out (by omega) (by omega)).mono ?_; rintro e w1 ⟨rfl, rfl⟩)
    go_ret2
    exact ⟨rfl, rfl⟩

def besB (seed : List UInt8) (i l : Nat) : List UInt8 := nodeB seed l (besideN (i / 2 ^ l))
theorem path_cat (seed : List UInt8) (i h : Nat) : (pathB seed i h).flatten = catB (besB seed i) h := by
  unfold pathB catB
  have e : (fun l => nodeB seed l (besideN (i >>> l))) = besB seed i := by
    funext l
    unfold besB
    rw [Nat.shiftRight_eq_div_pow]
  rw [e]; rfl
theorem sigB_cat (seed : List UInt8) (h i : Nat) (m : ByteArray) : sigB seed h i m = enc (i : Int) ++ catB (valueB seed i (digitsB (digestB (rootB seed h) i m))) 68 ++ catB (besB seed i) h := by
  unfold sigB
  rw [path_cat]
theorem beside_lt {k n : Nat} (h : k < 2 ^ (n + 1)) (h64 : k < 64) : besideN k < 2 ^ (n + 1) := by
  rw [beside_of k h64]
  rw [Nat.pow_succ] at h ⊢
  split <;> omega
theorem div_lt {i h l : Nat} (hi : i < 2 ^ h) (hl : l ≤ h) : i / 2 ^ l < 2 ^ (h - l) := by
  rw [Nat.div_lt_iff_lt_mul (Nat.pow_pos (by omega)), ← Nat.pow_add, Nat.sub_add_cancel hl]
  exact hi

set_option maxRecDepth 100000 in
set_option maxHeartbeats 16000000 in
theorem rsign_ok (seed m : ByteArray) (h i : Nat) (w : World) (hk : KT 1 w) (hs : seed.size = 32) (h6 : h ≤ 6) (hi : i < 2 ^ h) (hm : m.size ≤ 1048576) (G : ByteArray) (hG : str (sigB seed.data.toList h i m) = G) :
    Calls Tryd.prog 21 #[.string seed, .int .i64 (h : Int), .int .i64 (i : Int), .string m] w fun e w' => e = .returned (.tuple #[.string G, .int .i64 0]) ∧ Below w.heap.size w w' := by
  have hz := Tryd.zero29
  have hm2 : ¬ (1048576 : Int) < (m.size : Int) := by omega
  have h64 : 2 ^ h ≤ 64 := by
    have : 2 ^ h ≤ 2 ^ 6 := Nat.pow_le_pow_right (by omega) h6
    simpa using this
  have hi64 : i < 64 := Nat.lt_of_lt_of_le hi h64
  obtain ⟨sd, hsd⟩ : ∃ sd, sd = seed.data.toList := ⟨_, rfl⟩
  rw [← hsd] at hG
  obtain ⟨d, hd⟩ : ∃ d, d = rootB sd h := ⟨_, rfl⟩
  have hdl : d.length = 16 := by rw [hd]; exact nodeB_16 _ _ _
  obtain ⟨q, hq⟩ : ∃ q, q = digestB d i m := ⟨_, rfl⟩
  have hql : q.length = 16 := by rw [hq]; exact digestB_16 _ _ _
  obtain ⟨ds, hds⟩ : ∃ ds, ds = digitsB q := ⟨_, rfl⟩
  have hdsl : ds.length = 68 := by rw [hds]; exact digitsB_length hql
  have hds3 : ∀ c, ds.getD c 0 ≤ 3 := fun c => by rw [hds]; exact digitsB_getD q c
  obtain ⟨f, hf⟩ : ∃ f, f = valueB sd i ds := ⟨_, rfl⟩
  have hf16 : ∀ c, (f c).length = 16 := fun c => by rw [hf]; exact valueB_len _ _ _ _
  obtain ⟨b, hb⟩ : ∃ b, b = besB sd i := ⟨_, rfl⟩
  have hb16 : ∀ c, (b c).length = 16 := fun c => by rw [hb]; exact nodeB_16 _ _ _
  obtain ⟨e0, he0⟩ : ∃ e0, e0 = enc (i : Int) := ⟨_, rfl⟩
  have he9 : e0.length ≤ 9 := by rw [he0]; exact (enc_len ⟨by omega, by omega⟩).2
  have hGe : str (e0 ++ catB f 68 ++ catB b h) = G := by rw [← hG, sigB_cat, he0, hf, hb, hds, hq, hd]
  have hsh := shl1 h h6
  obtain ⟨N, hN⟩ : ∃ N, N = 2 ^ h := ⟨_, rfl⟩
  rw [← hN] at hsh
  have hiN : ¬ (N : Int) ≤ (i : Int) := by omega
  have i1 : (h : Int) < (h : Int) + 1 := by omega
  have hsdl : (Tryd.prog.info? 29).map (·.size) = some (bs d).length := by rw [bs_length, hdl]; exact Tryd.size29
  have HSDL := Lib.hid hsdl
  have HS := Lib.hid hs
  have HK := Lib.hid hk
  have HI := Lib.hid hi
  have HSD := Lib.hid hsd
  have HD := Lib.hid hd
  have HDL := Lib.hid hdl
  have HQ := Lib.hid hq
  have HQL := Lib.hid hql
  have HDS := Lib.hid hds
  have HDSL := Lib.hid hdsl
  have HDS3 := Lib.hid hds3
  have HF := Lib.hid hf
  have HF16 := Lib.hid hf16
  have HB := Lib.hid hb
  have HB16 := Lib.hid hb16
  have HE0 := Lib.hid he0
  have HGE := Lib.hid hGe
  have HIR := Lib.hid (show inRange (i : Int) from ⟨by omega, by omega⟩)
  clear hsdl hs hk hi hsd hd hdl hq hql hds hdsl hds3 hf hf16 hb hb16 he0 hGe hG hN h64
  go_enter Tryd.func21, Tryd.ntmps21
  go_wp2_with (first
    | (go_at_call 40; refine (rfits_yes seed h _ HS.out (by omega) (by omega)).mono ?_; rintro e w1 ⟨rfl, rfl⟩)
    | (go_at_call 41; refine (refLevels_is seed h _ HK.out (by have := HS.out; omega) h6).mono ?_; rintro e w2 ⟨go, co, rfl, ht, hb2⟩; rw [← HSD.out] at ht; have HB2 := Lib.hid hb2; obtain ⟨gl, cl, hc, hr⟩ := (ht w2 (Below.refl _ _)).root; rw [← HD.out] at hr; have HR := Lib.hid hr; have HT := Lib.hid ht; clear ht hb2 hr)
    | (refine wpList_load_mid rfl 29 (.tmp 41) rfl gl 0 rfl (bs d) _ HR.out Tryd.underlying29 rfl HSDL.out ?_)
    | (go_at_call 23; refine (refDigest d i m _ (HK.out.below HB2.out) HDL.out HIR.out hm q HQ.out.symm).mono ?_; rintro e w3 ⟨rfl, hb3⟩; have HB3 := Lib.hid (bt HB2.out hb3); have HV3 := Lib.hid hb3; clear hb3 hc)
    | (go_at_call 17; refine (refDigits_is q ds HQL.out HDS.out.symm _).mono ?_; rintro e w4 ⟨gd, cd, rfl, hrd, hcd, hb4⟩; have HB4 := Lib.hid (bt HB3.out hb4); have HV4 := Lib.hid (bt HV3.out hb4); have HRD := Lib.hid hrd; clear hb4 hrd)
    | (go_at_call 46; refine (refInt i _ HIR.out).mono ?_; rintro e w5 ⟨A5, c5, rfl, ho5, hb5⟩; have HB5 := Lib.hid (bt HB4.out hb5); have HV5 := Lib.hid (bt HV4.out hb5); have HRD5 := Lib.hid (HRD.out.below hb5); have hs45 := hb5.size; have hv5 := conv_str (c := c5) (Reads.of_own ho5); clear ho5 hb5))
  clear HB4 HB3 HB2 HV3 HV4 HRD HR hsh hiN hm2 i1 hv5
  go_loopw [13, 14] (fun s' c' wr => ∃ k : Nat, k ≤ 68 ∧ c' = .int .i64 k ∧ s' = .string (str (e0 ++ catB f k)) ∧ Hid (Below w5.heap.size w5 wr)) (fun _ c' _ => 68 - (intOf c').toNat)
  case atStart => exact ⟨0, by omega, rfl, by rw [show catB f 0 = [] from rfl, List.append_nil, HE0.out], Below.refl _ _⟩
  case round =>
    obtain ⟨k, hk, rfl, rfl, hh⟩ := hrel
    by_cases hlt : k < 68
    · obtain ⟨x, hx⟩ : ∃ x, x = startB seed.data.toList i k := ⟨_, rfl⟩
      have hxl : x.length = 16 := by rw [hx]; exact startB_16 _ _ _
      obtain ⟨z, hz'⟩ : ∃ z, z = f k := ⟨_, rfl⟩
      have hzl : z.length = 16 := by rw [hz']; exact HF16.out k
      obtain ⟨dg, hdg⟩ : ∃ dg, dg = ds.getD k 0 := ⟨_, rfl⟩
      have hdg3 : dg ≤ 3 := by rw [hdg]; exact HDS3.out k
      have hadv : advB i k 0 (dg - 0) x = z := by rw [hz', HF.out, hx, hdg, ← HSD.out]; rfl
      obtain ⟨a, ha⟩ : ∃ a, a = e0 ++ catB f k := ⟨_, rfl⟩
      have hcs : e0 ++ catB f (k + 1) = a ++ z := by rw [catB_succ, ha, ← hz', List.append_assoc]
      have hal : a.length ≤ 9 + 16 * k := by
        rw [ha, List.length_append, catB_length f HF16.out k]; omega
      have hsz : ((str a).size : Int) + ((str z).size : Int) ≤ 140737488355328 := by rw [str_size, str_size, hzl]; omega
      have HLD : Hid (∀ W, Below wr.heap.size wr W → (Instr.loadAt 3 (.pointer (some ⟨gd, k, none⟩))).run Tryd.prog W = .ok (.int .i64 (dg : Int)) W) := by
        intro W hW
        refine load3 W ?_
        obtain ⟨ad, he, _, hc⟩ := (HRD5.out.below ((below_then hh.out hW).mono hs45)).2 (by omega)
        injection he with he
        subst he
        have := hc k _ (ns_getD ds k (by rw [HDSL.out]; exact hlt))
        rw [← hdg] at this
        rwa [Addr.add_lit, Nat.zero_add] at this
      have HR1 := Lib.hid (fun (W : World) (hW : Below wr.heap.size wr W) => refStart seed i k W (((HK.out.below HB5.out).below hh.out).below hW) (by have := HS.out; omega) HIR.out ⟨by omega, by omega⟩ x hx.symm)
      have HR2 := Lib.hid (fun (W : World) (hW : Below wr.heap.size wr W) => refAdvance x i k 0 dg W (((HK.out.below HB5.out).below hh.out).below hW) hxl HIR.out ⟨by omega, by omega⟩ (by omega) (by omega) z hadv)
      have HR3 := Lib.hid (fun W => text16 z hzl W)
      have HCS := Lib.hid hcs
      rw [← ha]
      clear hx hxl hz' hzl hdg hadv ha hcs hal
      have hki : (k : Int) < 68 := by omega
      go_wp2
      refine wp_region_below wr (Below.refl _ _) (by kernel_rfl) (by kernel_rfl) ?_
      iterate 6 go_big_quiet_step ((intro _; rfl))
      refine wpQuiet_load' rfl 3 (.tmp 59) rfl _ rfl (.int .i64 (dg : Int)) HLD.out ?_
      go_simp
      iterate 3 go_big_quiet_step ((intro _; rfl))
      go_big_quiet_step ((intro hw'; exact (HR1.out _ hw').mono fun e w'' ⟨he, hb⟩ => ⟨he, below_then hw' hb⟩))
      go_big_quiet_step ((intro hw'; exact (HR2.out _ hw').mono fun e w'' ⟨he, hb⟩ => ⟨he, below_then hw' hb⟩))
      go_big_quiet_step ((intro hw'; exact (HR3.out _).mono fun e w'' ⟨he, hb⟩ => ⟨he, below_then hw' hb⟩))
      iterate 2 go_big_quiet_step ((intro _; rfl))
      refine wpQuiet_nil ?_
      intro w6 hb6
      have HB6 := Lib.hid (below_then hh.out hb6)
      clear hb6
      go_wp2_with fail
      go_roundw
      case rel => exact ⟨k + 1, by omega, by go_num, by rw [HCS.out, str_append], HB6.out⟩
      case measure => simp [intOf]; omega
    · have hke : k = 68 := by omega
      have HBr := Lib.hid (bt HB5.out hh.out)
      have HTr := Lib.hid (fun (W : World) (hW : Below wr.heap.size wr W) => HT.out W (bt (bt HV5.out hh.out) hW))
      obtain ⟨a0, ha0⟩ : ∃ a0, a0 = e0 ++ catB f k := ⟨_, rfl⟩
      have ha0l : a0.length ≤ 1100 := by rw [ha0, List.length_append, catB_length f HF16.out k]; omega
      have hg2 := HGE.out
      rw [← hke, ← ha0] at hg2
      rw [← ha0]
      have HGE2 := Lib.hid hg2
      have hge : 68 ≤ k := by omega
      clear hlt hk hh HB5 HV5 HRD5 HT HDS HDS3 HDSL ha0 HGE hg2 hke
      go_wp2
      obtain ⟨wm, rfl⟩ : ∃ W : World, W = wr := ⟨_, rfl⟩
      go_loopw [13, 15, 16] (fun s' j' l' wq => ∃ l : Nat, l ≤ h ∧ l' = .int .i64 l ∧ j' = .int .i64 ((i / 2 ^ l : Nat) : Int) ∧ s' = .string (str (a0 ++ catB b l)) ∧ Hid (Below wm.heap.size wm wq)) (fun _ _ l' _ => h - (intOf l').toNat)
      case atStart => exact ⟨0, by omega, rfl, by simp, by rw [show catB b 0 = [] from rfl, List.append_nil], Below.refl _ _⟩
      case round =>
        obtain ⟨l, hl', rfl, rfl, rfl, hh⟩ := hrel
        by_cases hlt : l < h
        · obtain ⟨k, hk⟩ : ∃ k, k = i / 2 ^ l := ⟨_, rfl⟩
          have hk63 : k < 64 := by rw [hk]; exact Nat.lt_of_le_of_lt (Nat.div_le_self _ _) hi64
          have hkl : k < 2 ^ (h - l) := by rw [hk]; exact div_lt HI.out (by omega)
          obtain ⟨z, hz'⟩ : ∃ z, z = b l := ⟨_, rfl⟩
          have hzl : z.length = 16 := by rw [hz']; exact HB16.out l
          obtain ⟨t, ht⟩ : ∃ t, t = besideN k := ⟨_, rfl⟩
          have htl : t < 2 ^ (h - l) := by
            have e : h - l = (h - l - 1) + 1 := by omega
            rw [ht, e]; rw [e] at hkl
            exact beside_lt hkl hk63
          have hzt : nodeB sd l t = z := by rw [hz', HB.out, ht, hk]; rfl
          obtain ⟨gl2, cl2, hc2, hr2⟩ := HTr.out wr hh.out l (by omega)
          have hr3 := hr2 t htl
          rw [hzt] at hr3
          obtain ⟨M, hM⟩ : ∃ M, M = 2 ^ (h - l) := ⟨_, rfl⟩
          rw [← hM] at hc2 htl
          have hM64 : M ≤ 64 := by
            have : 2 ^ (h - l) ≤ 2 ^ 6 := Nat.pow_le_pow_right (by omega) (by omega)
            omega
          obtain ⟨a, ha⟩ : ∃ a, a = a0 ++ catB b l := ⟨_, rfl⟩
          have hcs : a0 ++ catB b (l + 1) = a ++ z := by rw [catB_succ, ha, ← hz', List.append_assoc]
          have hal : a.length ≤ 1100 + 16 * l := by
            rw [ha, List.length_append, catB_length b HB16.out l]; omega
          have hsz : ((str a).size : Int) + ((str z).size : Int) ≤ 140737488355328 := by rw [str_size, str_size, hzl]; omega
          have hszl : (Tryd.prog.info? 29).map (·.size) = some (bs z).length := by rw [bs_length, hzl]; exact Tryd.size29
          have HKN := Lib.hid (show ((k : Int) / 2) = ((i / 2 ^ (l + 1) : Nat) : Int) by rw [half, ← hk]; simp)
          have HCS := Lib.hid hcs
          have HZL := Lib.hid hzl
          have HSZL := Lib.hid hszl
          have HRZ := Lib.hid hr3
          have j1 : (l : Int) < (h : Int) + 1 := by omega
          have j2 : (l : Int) < (h : Int) := by omega
          have j3 : (t : Int) < (M : Int) := by omega
          have hbs := beside_of k hk63
          rw [← ht] at hbs
          rw [← hk, ← ha]
          clear hk hz' hzl hzt hr2 hr3 hM ha hcs hal hkl hszl ht htl
          by_cases hodd : k % 2 = 1
          · have hb1 : (((k : Int) % 2) == 1) = true := by simp; omega
            have hte : (k : Int) - 1 = (t : Int) := by rw [if_pos hodd] at hbs; omega
            clear hbs
            go_wp2_with (first
              | (refine wpList_load_mid rfl 29 (.tmp 87) rfl gl2 (t * 16) rfl (bs z) _ HRZ.out Tryd.underlying29 rfl HSZL.out ?_)
              | (go_at_call 34; refine (text16 z HZL.out _).mono ?_; rintro e w7 ⟨rfl, hb7⟩; have HB7 := Lib.hid (bt hh.out hb7); clear hb7))
            go_roundw
            case rel => exact ⟨l + 1, by omega, by go_num, by rw [HKN.out], by rw [HCS.out, str_append], HB7.out⟩
            case measure => simp [intOf]; omega
          · have hb1 : (((k : Int) % 2) == 1) = false := by simp; omega
            have hte : (k : Int) + 1 = (t : Int) := by rw [if_neg hodd] at hbs; omega
            clear hbs
            go_wp2_with (first
              | (refine wpList_load_mid rfl 29 (.tmp 87) rfl gl2 (t * 16) rfl (bs z) _ HRZ.out Tryd.underlying29 rfl HSZL.out ?_)
              | (go_at_call 34; refine (text16 z HZL.out _).mono ?_; rintro e w7 ⟨rfl, hb7⟩; have HB7 := Lib.hid (bt hh.out hb7); clear hb7))
            go_roundw
            case rel => exact ⟨l + 1, by omega, by go_num, by rw [HKN.out], by rw [HCS.out, str_append], HB7.out⟩
            case measure => simp [intOf]; omega
        · have hle : l = h := by omega
          subst hle
          clear hlt hl'
          rw [HGE2.out]
          go_wp2
          go_ret2
          exact ⟨rfl, bt HBr.out hh.out⟩
end Go.Proofs.YtaoegpmjogladaaDoor
