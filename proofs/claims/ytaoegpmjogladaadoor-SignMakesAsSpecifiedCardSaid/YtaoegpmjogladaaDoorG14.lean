/-
  sign.Digest.
-/
import Derived.Test.YtaoegpmjogladaaDoorG13
import Derived.Test.YtaoegpmjogladaaDoorG11
import Derived.Deep.RegionHeld3
import Derived.Maps.AppendAt
import Derived.Maps.RangeWalk
set_option linter.unusedVariables false
namespace Go.Proofs.YtaoegpmjogladaaDoor
open Go.RowKit WM
attribute [local go_sem ↓] shut16

set_option maxRecDepth 100000 in
set_option maxHeartbeats 2000000 in
theorem signDigest (p : List UInt8) (i : Int) (m : ByteArray) (w : World) (hk : KT 0 w) (hp : p.length = 16) (hi : inRange i) (hm : m.size ≤ 1048576) :
    Calls Tryd.prog 22 #[.agg (bs p).toArray, .int .i64 i, .string m] w fun e w' => e = .returned (.agg (bs (digestB p i m)).toArray) ∧ Below w.heap.size w w' := by
  have hz := Tryd.zero29
  have HP := Lib.hid hp
  have HK := Lib.hid hk
  have hi9 := (enc_len hi).2
  obtain ⟨q, hq⟩ : ∃ q, q = digestB p i m := ⟨_, rfl⟩
  have hql : q.length = 16 := by rw [hq]; exact digestB_16 _ _ _
  have hqo : ofB 12 [str p, str (enc i), m] = q := by rw [hq]; rfl
  have hen := encP_3_le p (enc i) m (by rw [hp]; decide) (by omega) (by omega)
  rw [hp] at hen
  have HEN := Lib.hid (show (encP [str p, str (enc i), m]).length ≤ 137438953472 by omega)
  have HQL := Lib.hid hql
  have HQO := Lib.hid hqo
  have HS16 := Lib.hid (size16 hql)
  rw [← hq]
  clear hp hk hq hql hqo hen
  have hsl := fun g => slice44 g
  go_enter Tryd.func22, Tryd.ntmps22
  go_wp2
  generalize hw0 : World.alloc _ _ = w0
  have H0 : Hid (Blk w0 w.heap.size 29 (bs p).toArray ∧ Blk w0 (w.heap.size + 1) 29 (bs z16).toArray ∧ Below w.heap.size w w0) := by
    rw [← hw0]
    exact ⟨(Blk.new w 29 _).alloc _, Blk.new_at _ 29 (size_alloc _ _).symm rfl, ba (below_new _ _) _⟩
  clear hw0
  have hlq : (bs q).length = 16 := by rw [bs_length]; exact HQL.out
  have hc0 := conv_arr H0.out.1 HP.out
  have hc1 := conv_arr H0.out.1.drew HP.out
  go_region_with (first
    | (go_at_call 43; refine (encInt i _ (by assumption)).mono ?_; rintro e w1 ⟨A1, c1, rfl, ho1, hb1⟩; have HB1 := Lib.hid (bt H0.out.2.2.drew hb1); have HP1 := Lib.hid (blk_past hb1 H0.out.1.drew); have HZ1 := Lib.hid (blk_past hb1 H0.out.2.1.drew); have hv1 := conv_str (c := c1) (Reads.of_own ho1); have hv2 := conv_arr HP1.out HP.out; clear ho1 hb1)
    | (go_at_call 13; refine (of_n 12 [str p, str (enc i), m] (some ⟨w1.heap.size, 0, none⟩) 3 3 _ rfl (HK.out.below (ba HB1.out _)) (reads_ss rfl rfl rfl) HEN.out (by decide) q HQO.out).mono ?_; rintro e w3 ⟨rfl, hb3⟩; have HB3 := Lib.hid (bt (ba HB1.out _) hb3); have HZ3 := Lib.hid (blk_past hb3 (HZ1.out.alloc _)); have hst := store16 HZ3.out z16_length HQL.out; clear hb3))
  all_goals
    go_wp2
    refine bodyPost_ret (results_cell_row Tryd.results22 _ _ (w.heap.size + 1) 29 (bs q).toArray (0, 0) _ rfl (HZ3.out.setRow _) Tryd.underlying29 rfl HS16.out) rfl ⟨rfl, below_setRow HB3.out (by omega) _⟩
end Go.Proofs.YtaoegpmjogladaaDoor

/-
  The closures that give the values of a key, and sign.leaf at each of them.
-/
namespace Go.Proofs.YtaoegpmjogladaaDoor
open Go.RowKit WM
attribute [local go_sem ↓] shut16

theorem one_cell {w : World} {g : Nat} {t : TypeId} {v : Value} (h : Blk w g t #[v]) : w.cell? ⟨g, 0, none⟩ = some v := Blk.cell h 0

set_option maxRecDepth 100000 in
set_option maxHeartbeats 2000000 in
theorem topClo (seed : ByteArray) (k c gs gk : Nat) (w : World) (hk : KT 0 w) (hs : seed.size ≤ 1000) (hgs : Blk w gs 9 #[.string seed]) (hgk : Blk w gk 3 #[.int .i64 (k : Int)]) (hkr : k ≤ 1000000) (hc : c ≤ 1000000) :
    Calls Tryd.prog 64 #[.int .i64 (c : Int), .pointer (some ⟨gs, 0, none⟩), .pointer (some ⟨gk, 0, none⟩)] w fun e w' => e = .returned (.agg (bs (topB seed.data.toList k c)).toArray) ∧ Below w.heap.size w w' := by
  have hz := Tryd.zero29
  obtain ⟨x, hx⟩ : ∃ x, x = startB seed.data.toList k c := ⟨_, rfl⟩
  have hxl : x.length = 16 := by rw [hx]; exact startB_16 _ _ _
  obtain ⟨y, hy⟩ : ∃ y, y = topB seed.data.toList k c := ⟨_, rfl⟩
  have hyl : y.length = 16 := by rw [hy]; exact topB_16 _ _ _
  have hya : advB k c 0 (3 - 0) x = y := by rw [hy, hx]; rfl
  have hlq : (bs y).length = 16 := by rw [bs_length]; exact hyl
  rw [← hy]
  have HKR := Lib.hid (show inRange (k : Int) from ⟨by omega, by omega⟩)
  have HCR := Lib.hid (show inRange (c : Int) from ⟨by omega, by omega⟩)
  have HX := Lib.hid hx
  have HXL := Lib.hid hxl
  have HYL := Lib.hid hyl
  have HYA := Lib.hid hya
  have HS16 := Lib.hid (size16 hyl)
  have HK := Lib.hid hk
  have HGS := Lib.hid hgs
  have HGK := Lib.hid hgk
  have hl1 := hgs.lt
  have hl2 := hgk.lt
  clear hx hxl hy hyl hya hk hgs hgk
  go_enter Tryd.func64, Tryd.ntmps64
  go_wp2
  generalize hw0 : World.alloc _ _ = w0
  have H0 : Hid (Blk w0 w.heap.size 29 (bs z16).toArray ∧ Below w.heap.size w w0) := by
    rw [← hw0]; exact ⟨Blk.new w 29 _, below_new _ _⟩
  have g1 := one_cell (HGS.out.below H0.out.2 hl1)
  have g2 := one_cell (HGK.out.below H0.out.2 hl2)
  have g3 := one_cell (HGS.out.below H0.out.2.drew hl1)
  have g4 := one_cell (HGK.out.below H0.out.2.drew hl2)
  clear hw0
  go_region_with (first
    | (go_at_call 45; refine (start seed k c _ (HK.out.below H0.out.2.drew) hs HKR.out HCR.out).mono ?_; rintro e w1 ⟨rfl, hb1⟩; rw [← HX.out]; have HB1 := Lib.hid (bt H0.out.2.drew hb1); have HZ1 := Lib.hid (blk_past hb1 H0.out.1.drew); have g5 := one_cell (HGK.out.below HB1.out hl2); clear hb1)
    | (go_at_call 44; refine (advance x k c 0 3 _ (HK.out.below HB1.out) HXL.out HKR.out HCR.out (by omega) (by omega)).mono ?_; rintro e w3 ⟨rfl, hb3⟩; rw [HYA.out]; have HB3 := Lib.hid (bt HB1.out hb3); have HZ3 := Lib.hid (blk_past hb3 HZ1.out); have hst := store16 HZ3.out z16_length HYL.out; clear hb3))
  all_goals
    go_wp2
    refine bodyPost_ret (results_cell_row Tryd.results64 _ _ w.heap.size 29 (bs y).toArray (0, 0) _ rfl (HZ3.out.setRow _) Tryd.underlying29 rfl HS16.out) rfl ⟨rfl, below_setRow HB3.out (by omega) _⟩
/-- A slice of a whole array of bytes. -/
theorem reads_blkB {w : World} {g B n : Nat} {t : TypeId} {x : List UInt8} (h : Blk w g t (bs x).toArray) (hn : x.length = n) (hB : g < B) : Reads w B 1 (some ⟨g, 0, none⟩) n (bs x) :=
  ⟨by rw [bs_length]; omega, fun _ => ⟨_, rfl, hB, fun j u hu => by rw [Addr.add_lit, Nat.zero_add, Blk.cell h]; simpa using hu⟩⟩
end Go.Proofs.YtaoegpmjogladaaDoor

/-
  sign.leaf at the closure of tree.
-/
namespace Go.Proofs.YtaoegpmjogladaaDoor
open Go.RowKit WM

set_option maxRecDepth 100000 in
set_option maxHeartbeats 2000000 in
theorem leafT (tops : Nat → List UInt8) (ga gb : Nat) (w : World) (hk : KT 0 w) (h16 : ∀ c, (tops c).length = 16)
    (hclo : ∀ (c : Nat) (W : World), c < 68 → Below w.heap.size w W → Calls Tryd.prog 64 #[.int .i64 (c : Int), .pointer (some ⟨ga, 0, none⟩), .pointer (some ⟨gb, 0, none⟩)] W fun e w' => e = .returned (.agg (bs (tops c)).toArray) ∧ Below W.heap.size W w') :
    Calls Tryd.prog 54 #[.func (.func 64) #[] #[.pointer (some ⟨ga, 0, none⟩), .pointer (some ⟨gb, 0, none⟩)]] w fun e w' => e = .returned (.agg (bs (leafB tops)).toArray) ∧ Below w.heap.size w w' := by
  have hz := Tryd.zero29
  obtain ⟨i0, hi, hz0, hz1, hz2⟩ := info_parts Tryd.info5
  obtain ⟨y, hy⟩ : ∃ y, y = ofB 11 [str (catB tops 68)] := ⟨_, rfl⟩
  have hyl : y.length = 16 := by rw [hy]; exact ofB_16 _ _
  obtain ⟨q, hq⟩ : ∃ q, q = leafB tops := ⟨_, rfl⟩
  have hql : q.length = 16 := by rw [hq]; exact leafB_16 _
  have hqy : ofB 9 [str y] = q := by rw [hq, hy]; rfl
  rw [← hq]
  have hcl : (catB tops 68).length = 1088 := catB_length tops h16 68
  have HE1 := Lib.hid (show (encP [str (catB tops 68)]).length ≤ 137438953472 by have := encP_1_le (catB tops 68) (by omega); omega)
  have HE2 := Lib.hid (show (encP [str y]).length ≤ 137438953472 by have := encP_1_le y (by omega); omega)
  have hsl := fun g => slice44 g
  have HY := Lib.hid hy.symm
  have HYL := Lib.hid hyl
  have HQL := Lib.hid hql
  have HQY := Lib.hid hqy
  have HS16 := Lib.hid (size16 hql)
  have HSY := Lib.hid (size16 hyl)
  have HK := Lib.hid hk
  have H16 := Lib.hid h16
  have HC := Lib.hid hclo
  clear hy hyl hq hql hqy hcl hk h16 hclo
  go_enter Tryd.func54, Tryd.ntmps54
  go_wp2
  go_loopw [3, 7] (fun v i' wr => ∃ k : Nat, k ≤ 68 ∧ i' = .int .i64 k ∧ Hid (wr.ownsRow w.heap.size 5 1 v (catB tops k).length (bs (catB tops k)) ∧ Blk wr w.heap.size 29 (bs z16).toArray ∧ Below w.heap.size w wr)) (fun _ i' _ => 68 - (intOf i').toNat)
  case atStart => exact ⟨0, by omega, rfl, World.ownsRow_nil _ _ _ _, Blk.new w 29 _, below_new _ _⟩
  case round =>
    obtain ⟨k, hk, rfl, hh⟩ := hrel
    have hsz := hh.out.2.2.size
    by_cases hlt : k < 68
    · obtain ⟨x, hx⟩ : ∃ x, x = tops k := ⟨_, rfl⟩
      have hxl : x.length = 16 := by rw [hx]; exact H16.out k
      have hck := HC.out k wr hlt hh.out.2.2
      have hcs := catB_succ tops k
      have hcl := catB_length tops H16.out k
      rw [← hx] at hck hcs
      have HCK := Lib.hid hck
      have HCS := Lib.hid hcs
      have HXL := Lib.hid hxl
      have HSX := Lib.hid (size16 hxl)
      clear hx hxl hck hcs
      go_wp2_with (first
        | (go_at_call 64; refine HCK.out.mono ?_; rintro e w1 ⟨rfl, hb1⟩; have HB1 := Lib.hid (bt hh.out.2.2 hb1); have HO1 := Lib.hid (ownsRow_below hh.out.1 hb1); have HZ1 := Lib.hid (blk_past hb1 hh.out.2.1); have hs1 := HB1.out.size; clear hb1)
        | (refine wpList_store_row rfl 29 (.tmp 5) (.tmp 12) rfl w1.heap.size (bs x).toArray rfl rfl 29 _ (Blk.new w1 29 _) HSX.out (by rw [sz16 HXL.out, sz16 z16_length]) (all_oneCell_toArray (bs_one _)) ?_
           generalize hw2 : World.setRow (World.alloc w1 _) _ _ = w2
           have HG2 : Hid (Blk w2 w1.heap.size 29 (bs x).toArray) := by rw [← hw2]; exact (Blk.new w1 29 _).setRow _
           have HZ2 : Hid (Blk w2 w.heap.size 29 (bs z16).toArray) := by rw [← hw2]; exact (HZ1.out.alloc _).setRow_far (by have := HZ1.out.lt; omega) _
           have HB2 : Hid (Below w.heap.size w w2) := by rw [← hw2]; exact below_setRow (ba HB1.out _) hs1 _
           have HO2 : Hid (w2.ownsRow w.heap.size 5 1 u3 (catB tops k).length (bs (catB tops k))) := by rw [← hw2]; exact ownsRow_below HO1.out (below_setRow (below_new _ _) (Nat.le_refl _) _)
           have HS2 : w2.heap.size = w1.heap.size + 1 := by rw [← hw2, size_setRow, size_alloc]
           clear hw2)
        | (at_builtin; refine wpList_append_any _ rfl (.tmp 13) (.tmp 14) _ rfl w.heap.size 5 i0 (.int .u8 0) 1 1 Tryd.underlying26 hi hz0 hz1 hz2 rfl (by omega) _ _ _ rfl HO2.out w2.heap.size (some ⟨w1.heap.size, 0, none⟩) 16 16 (bs x) rfl (reads_blkB HG2.out HXL.out (by omega)) (bs_one _) (len_le (by omega)) (by omega) (by omega) ?_; intro v3 w3 hown3 hgrow3 _; have HO3 := Lib.hid hown3; have HB3 := Lib.hid (HB2.out.grown hgrow3 HB2.out.size (fun k hk => (HO2.out.lt k hk).1)); have HZ3 := Lib.hid (HZ2.out.grown hgrow3 (fun e => own_blk_ne HO2.out HZ2.out (by decide) e.symm)); clear hown3 hgrow3))
      go_roundw
      case rel => exact ⟨k + 1, by omega, by go_num, own_next (by rw [HXL.out]; exact HO3.out) HCS.out, HZ3.out, HB3.out⟩
      case measure => simp [intOf]; omega
    · have hke : k = 68 := by omega
      have hown := hh.out.1
      rw [hke] at hown
      obtain ⟨A4, c4, rfl, _⟩ := own_form hown
      have hcv := conv_str (c := c4) (Reads.of_own hown)
      have hge : 68 ≤ k := by omega
      clear hlt hk hke hown
      have HC1 := Lib.hid (of_n 11 [str (catB tops 68)] (some ⟨wr.heap.size, 0, none⟩) 1 1 (wr.alloc (.cells #[.string (str (catB tops 68))] 9)) rfl (HK.out.below (ba hh.out.2.2 _)) (reads_ss rfl rfl rfl) HE1.out (by decide) y HY.out)
      go_wp2_with (first
        | (go_at_call 13; ((with_reducible refine HC1.out.mono ?_); rintro e w5 ⟨rfl, hb5⟩); have HB5 := Lib.hid (bt (ba hh.out.2.2 _) hb5); have HZ5 := Lib.hid (blk_past hb5 (hh.out.2.1.alloc _)); clear hb5)
        | (refine wpList_store_row rfl 29 (.tmp 6) (.tmp 20) rfl w5.heap.size (bs y).toArray rfl rfl 29 _ (Blk.new w5 29 _) HSY.out (by rw [sz16 HYL.out, sz16 z16_length]) (all_oneCell_toArray (bs_one _)) ?_
           generalize hw6 : World.setRow (World.alloc w5 _) _ _ = w6
           have HG6 : Hid (Blk w6 w5.heap.size 29 (bs y).toArray) := by rw [← hw6]; exact (Blk.new w5 29 _).setRow _
           have HZ6 : Hid (Blk w6 w.heap.size 29 (bs z16).toArray) := by rw [← hw6]; exact (HZ5.out.alloc _).setRow_far (by have := HZ5.out.lt; omega) _
           have HB6 : Hid (Below w.heap.size w w6) := by rw [← hw6]; exact below_setRow (ba HB5.out _) HB5.out.size _
           have hc6 := conv_arr HG6.out HYL.out
           have HC2 := Lib.hid (of_n 9 [str y] (some ⟨w6.heap.size, 0, none⟩) 1 1 (w6.alloc (.cells #[.string (str y)] 9)) rfl (HK.out.below (ba HB6.out _)) (reads_ss rfl rfl rfl) HE2.out (by decide) q HQY.out)
           clear hw6)
        | (go_at_call 13; ((with_reducible refine HC2.out.mono ?_); rintro e w7 ⟨rfl, hb7⟩); have HB7 := Lib.hid (bt (ba HB6.out _) hb7); have HZ7 := Lib.hid (blk_past hb7 (HZ6.out.alloc _)); clear hb7)
        | (refine wpList_store_row rfl 29 (.tmp 2) (.tmp 24) rfl w.heap.size (bs q).toArray rfl rfl 29 _ HZ7.out HS16.out (by rw [sz16 HQL.out, sz16 z16_length]) (all_oneCell_toArray (bs_one _)) ?_))
      refine bodyPost_ret (results_cell_row Tryd.results54 _ _ w.heap.size 29 (bs q).toArray (0, 0) _ rfl (HZ7.out.setRow _) Tryd.underlying29 rfl HS16.out) rfl ⟨rfl, below_setRow HB7.out (by omega) _⟩
end Go.Proofs.YtaoegpmjogladaaDoor

/-
  What the walk of the tree gathers: plain mathematics.
-/
namespace Go.Proofs.YtaoegpmjogladaaDoor
open Go.RowKit WM

/-- The number of the node beside the way, at a level. -/
def sib (i l : Nat) : Nat := i / 2 ^ l ^^^ 1
def putB (seed : List UInt8) (h i l k : Nat) (L : List (List UInt8)) : List (List UInt8) := if l < h ∧ k = sib i l then L.set l (nodeB seed l k) else L
def visitB (seed : List UInt8) (h i : Nat) : Nat → Nat → List (List UInt8) → List (List UInt8)
  | 0, k, L => putB seed h i 0 k L
  | l + 1, k, L => putB seed h i (l + 1) k (visitB seed h i l (2 * k + 1) (visitB seed h i l (2 * k) L))
theorem putB_length (seed : List UInt8) (h i l k : Nat) (L : List (List UInt8)) : (putB seed h i l k L).length = L.length := by
  unfold putB; split <;> simp
theorem visitB_length (seed : List UInt8) (h i : Nat) : ∀ (l k : Nat) (L : List (List UInt8)), (visitB seed h i l k L).length = L.length
  | 0, k, L => putB_length _ _ _ _ _ _
  | l + 1, k, L => by unfold visitB; rw [putB_length, visitB_length seed h i l, visitB_length seed h i l]
theorem putB_16 {seed : List UInt8} {h i l k : Nat} {L : List (List UInt8)} (hL : ∀ x ∈ L, x.length = 16) : ∀ x ∈ putB seed h i l k L, x.length = 16 := by
  unfold putB
  split
  · intro x hx
    rcases List.mem_or_eq_of_mem_set hx with h1 | h1
    · exact hL x h1
    · rw [h1]; exact nodeB_16 _ _ _
  · exact hL
theorem visitB_16 {seed : List UInt8} {h i : Nat} : ∀ (l k : Nat) {L : List (List UInt8)}, (∀ x ∈ L, x.length = 16) → ∀ x ∈ visitB seed h i l k L, x.length = 16
  | 0, _, _, hL => putB_16 hL
  | l + 1, k, _, hL => by
    unfold visitB
    exact putB_16 (visitB_16 l (2 * k + 1) (visitB_16 l (2 * k) hL))
theorem putB_get (seed : List UInt8) (h i l k j : Nat) (L : List (List UInt8)) (hL : L.length = h) :
    (putB seed h i l k L)[j]? = if j = l ∧ j < h ∧ k = sib i l then some (nodeB seed l k) else L[j]? := by
  unfold putB
  by_cases h1 : l < h ∧ k = sib i l
  · rw [if_pos h1, List.getElem?_set]
    by_cases h2 : l = j
    · subst h2
      rw [if_pos rfl, if_pos (by omega), if_pos ⟨rfl, h1.1, h1.2⟩]
    · rw [if_neg h2, if_neg (by omega)]
  · rw [if_neg h1, if_neg (by omega)]
theorem half_of (t d k : Nat) (hd : 0 < d) : (t / d = 2 * k ∨ t / d = 2 * k + 1) ↔ t / (2 * d) = k := by
  rw [Nat.mul_comm 2 d, ← Nat.div_div_eq_div_mul]; omega
theorem visitB_get (seed : List UInt8) (h i j : Nat) : ∀ (l k : Nat) (L : List (List UInt8)), L.length = h →
    (visitB seed h i l k L)[j]? = if j ≤ l ∧ j < h ∧ sib i j / 2 ^ (l - j) = k then some (nodeB seed j (sib i j)) else L[j]?
  | 0, k, L, hL => by
    unfold visitB
    rw [putB_get _ _ _ _ _ _ _ hL]
    by_cases h1 : j = 0 ∧ j < h ∧ k = sib i 0
    · obtain ⟨rfl, h2, h3⟩ := h1
      rw [if_pos ⟨rfl, h2, h3⟩, if_pos ⟨Nat.le_refl _, h2, by simp [h3]⟩, h3]
    · rw [if_neg h1, if_neg]
      rintro ⟨h2, h3, h4⟩
      obtain rfl : j = 0 := by omega
      exact h1 ⟨rfl, h3, by simpa using h4.symm⟩
  | l + 1, k, L, hL => by
    unfold visitB
    have e1 := visitB_length seed h i l (2 * k) L
    have e2 := visitB_length seed h i l (2 * k + 1) (visitB seed h i l (2 * k) L)
    rw [putB_get _ _ _ _ _ _ _ (by omega), visitB_get seed h i j l (2 * k + 1) _ (by omega), visitB_get seed h i j l (2 * k) L hL]
    by_cases hj : j ≤ l
    · rw [if_neg (by omega)]
      have e3 : l + 1 - j = l - j + 1 := by omega
      have e4 : 2 ^ (l + 1 - j) = 2 * 2 ^ (l - j) := by rw [e3, Nat.pow_succ, Nat.mul_comm]
      have e5 := half_of (sib i j) (2 ^ (l - j)) k (Nat.pos_of_ne_zero (by simp))
      rw [e4]
      by_cases hh : j < h
      · by_cases h6 : sib i j / 2 ^ (l - j) = 2 * k + 1
        · rw [if_pos ⟨hj, hh, h6⟩, if_pos ⟨by omega, hh, e5.1 (.inr h6)⟩]
        · rw [if_neg (fun c => h6 c.2.2)]
          by_cases h7 : sib i j / 2 ^ (l - j) = 2 * k
          · rw [if_pos ⟨hj, hh, h7⟩, if_pos ⟨by omega, hh, e5.1 (.inl h7)⟩]
          · rw [if_neg (fun c => h7 c.2.2), if_neg (fun c => (e5.2 c.2.2).elim h7 h6)]
      · rw [if_neg (by omega), if_neg (by omega), if_neg (by omega)]
    · by_cases hj2 : j = l + 1
      · subst hj2
        rw [if_neg (show ¬ (l + 1 ≤ l ∧ _) by omega), if_neg (show ¬ (l + 1 ≤ l ∧ _) by omega)]
        by_cases h8 : l + 1 < h ∧ k = sib i (l + 1)
        · rw [if_pos ⟨rfl, h8.1, h8.2⟩, if_pos ⟨Nat.le_refl _, h8.1, by simp [h8.2]⟩, h8.2]
        · rw [if_neg (fun c => h8 c.2), if_neg]
          rintro ⟨_, h9, h10⟩
          exact h8 ⟨h9, by simpa using h10.symm⟩
      · rw [if_neg (by omega), if_neg (by omega), if_neg (by omega), if_neg (by omega)]
theorem sib_lt {i h j : Nat} (hi : i < 2 ^ h) (hj : j < h) : sib i j < 2 ^ (h - j) := by
  unfold sib
  have h1 : i / 2 ^ j < 2 ^ (h - j) := by
    rw [Nat.div_lt_iff_lt_mul (Nat.pos_of_ne_zero (by simp)), ← Nat.pow_add, Nat.sub_add_cancel (by omega)]; exact hi
  exact Nat.xor_lt_two_pow h1 (Nat.one_lt_two_pow (by omega))
/-- The walk from the root gathers the nodes beside the way. -/
theorem visitB_root (seed : List UInt8) (h i : Nat) (hi : i < 2 ^ h) (L : List (List UInt8)) (hL : L.length = h) : visitB seed h i h 0 L = (List.range h).map fun l => nodeB seed l (sib i l) := by
  apply List.ext_getElem?
  intro j
  rw [visitB_get seed h i j h 0 L hL, List.getElem?_map]
  by_cases hj : j < h
  · rw [if_pos ⟨by omega, hj, Nat.div_eq_of_lt (sib_lt hi hj)⟩, List.getElem?_range hj]; rfl
  · rw [if_neg (by omega), List.getElem?_eq_none (by omega), List.getElem?_eq_none (by simpa using hj)]; rfl
theorem pathB_eq (seed : List UInt8) (i h : Nat) : pathB seed i h = (List.range h).map fun l => nodeB seed l (sib i l) := by
  unfold pathB besideN sib
  simp only [Nat.shiftRight_eq_div_pow]
end Go.Proofs.YtaoegpmjogladaaDoor

/-
  sign.tree's closure, which calls itself.
-/
namespace Go.Proofs.YtaoegpmjogladaaDoor
open Go.RowKit WM

/-- What was there is as it was, but for block gd. -/
def Kp (gd : Nat) (w w' : World) : Prop := w.grownBy w' (some gd)
section
variable {gd : Nat} {w w1 w2 : World}
theorem Kp.refl : Kp gd w w := World.grownBy.refl _ _
theorem Kp.of (h : Below w.heap.size w w1) : Kp gd w w1 := ⟨h.os, h.tape, h.output, h.size, fun i hi _ => h.block i hi⟩
theorem Kp.trans (h : Kp gd w w1) (k : Kp gd w1 w2) : Kp gd w w2 := World.grownBy.trans h k
theorem Kp.then (h : Kp gd w w1) (k : Below w1.heap.size w1 w2) : Kp gd w w2 := h.trans (Kp.of k)
theorem Kp.alloc (h : Kp gd w w1) (o : Obj) : Kp gd w (w1.alloc o) := h.then (below_new _ _)
theorem Kp.drew (h : Kp gd w w1) : Kp gd w w1.drew := ⟨h.os, h.tape, h.output, h.size, h.block⟩
theorem Kp.drewN (h : Kp gd w w1) (n : Nat) : Kp gd w (w1.drewN n) := ⟨h.os, h.tape, h.output, h.size, h.block⟩
theorem Kp.setRow (h : Kp gd w w1) {g : Nat} (hg : w.heap.size ≤ g ∨ g = gd) (c : Array Value) : Kp gd w (w1.setRow g c) :=
  ⟨h.os, h.tape, h.output, by rw [size_setRow]; exact h.size, fun i hi hne => by
    have hgi : g ≠ i := fun e => hg.elim (fun h1 => by omega) (fun h1 => hne (by rw [← e, h1]))
    rw [setRow_other _ _ _ _ hgi]; exact h.block i hi hne⟩
theorem Blk.kp {g : Nat} {t : TypeId} {cs : Array Value} (h : Blk w g t cs) (hk : Kp gd w w1) (hne : g ≠ gd) : Blk w1 g t cs :=
  (hk.block g h.lt (fun e => hne (Option.some.inj e))).trans h
theorem KT.kp {g : Nat} (h : KT g w) (hk : Kp gd w w1) (hne : g ≠ gd) : KT g w1 := fun t ht => by
  have hg : g < w.heap.size := KT.lt h
  rw [World.cell?_of_block (hk.block g hg (fun e => hne (Option.some.inj e)))]; exact h t ht
end

theorem cell_sc {W W2 : World} {a : Addr} {v : Option Value} (h : W = W2) (hc : W2.cell? a = v) : W.cell? a = v := by rw [h]; exact hc
theorem there16 {W : World} {g : Nat} {y : List UInt8} (hb : Blk W g 29 (bs y).toArray) (hy : y.length = 16) : W.there g 0 16 := fun j hj => by
  rw [Nat.zero_add]
  exact ⟨by rw [Blk.cell hb]; simp [bs, hy, hj], Blk.frozen hb j⟩
theorem setCells16 {W : World} {g : Nat} {x y : List UInt8} (hb : Blk W g 29 (bs y).toArray) (hy : y.length = 16) (hx : x.length = 16) : W.setCells g 0 (bs x) = W.setRow g (bs x).toArray := by
  have ht := there16 hb hy
  have hl : (bs x).length = 16 := by rw [bs_length]; exact hx
  have h1 := run_storeCells_cells (P := Tryd.prog) g 0 (bs x) 0 W (fun j hj => by simpa using (ht j (by omega)).1) (fun j hj => by simpa using (ht j (by omega)).2) (bs_one x)
  rw [show 0 + 0 = 0 from rfl, store16 hb hy hx] at h1
  injection h1 with _ h1
  exact h1.symm

/-- The cells of what the closure has captured. -/
structure TreeAt (seed : ByteArray) (h i gs gn gh gi gb gd : Nat) (w : World) : Prop where
  s : Blk w gs 9 #[.string seed]
  n : Blk w gn 92 #[.func (.func 63) #[] #[.pointer (some ⟨gs, 0, none⟩), .pointer (some ⟨gn, 0, none⟩), .pointer (some ⟨gh, 0, none⟩), .pointer (some ⟨gi, 0, none⟩), .pointer (some ⟨gb, 0, none⟩)]]
  hh : Blk w gh 3 #[.int .i64 (h : Int)]
  i : Blk w gi 3 #[.int .i64 (i : Int)]
  b : Blk w gb 70 #[.slice (some ⟨gd, 0, none⟩) h h]
  k : KT 0 w
/-- The digests of a list, one behind the other. -/
def dgs (L : List (List UInt8)) : Array Value := (bs L.flatten).toArray
theorem TreeAt.kp {seed : ByteArray} {h i gs gn gh gi gb gd : Nat} {w w1 : World} {L : List (List UInt8)} (ht : TreeAt seed h i gs gn gh gi gb gd w) (hd : Blk w gd 29 (dgs L)) (hk : Kp gd w w1) : TreeAt seed h i gs gn gh gi gb gd w1 :=
  ⟨ht.s.kp hk (ht.s.ne_ hd (by decide)), ht.n.kp hk (ht.n.ne_ hd (by decide)), ht.hh.kp hk (ht.hh.ne_ hd (by decide)), ht.i.kp hk (ht.i.ne_ hd (by decide)), ht.b.kp hk (ht.b.ne_ hd (by decide)), ht.k.kp hk (by
    rintro rfl
    have h1 := ht.k 0 (by decide)
    rw [Blk.cell hd] at h1
    unfold dgs at h1
    simp only [List.getElem?_toArray, bs, List.getElem?_map] at h1
    cases h2 : L.flatten[0]? with
    | none => rw [h2] at h1; cases h1
    | some c => rw [h2] at h1; simp [W32] at h1)⟩

def TreePost (seed : ByteArray) (h i gd l k : Nat) (L : List (List UInt8)) (w : World) (e : Ending) (w' : World) : Prop :=
  e = .returned (.agg (bs (nodeB seed.data.toList l k)).toArray) ∧ Blk w' gd 29 (dgs (visitB seed.data.toList h i l k L)) ∧ Kp gd w w'
/-- What the children of a node leave. -/
def kidsB (seed : List UInt8) (h i : Nat) : Nat → Nat → List (List UInt8) → List (List UInt8)
  | 0, _, L => L
  | l + 1, k, L => visitB seed h i l (2 * k + 1) (visitB seed h i l (2 * k) L)
theorem visitB_kids (seed : List UInt8) (h i l k : Nat) (L : List (List UInt8)) : visitB seed h i l k L = putB seed h i l k (kidsB seed h i l k L) := by
  cases l <;> rfl
theorem kidsB_length (seed : List UInt8) (h i l k : Nat) (L : List (List UInt8)) : (kidsB seed h i l k L).length = L.length := by
  cases l with
  | zero => rfl
  | succ l => unfold kidsB; rw [visitB_length, visitB_length]
theorem kidsB_16 {seed : List UInt8} {h i l k : Nat} {L : List (List UInt8)} (hL : ∀ x ∈ L, x.length = 16) : ∀ x ∈ kidsB seed h i l k L, x.length = 16 := by
  cases l with
  | zero => exact hL
  | succ l => exact visitB_16 _ _ (visitB_16 _ _ hL)

theorem xor_one (q : Nat) (h : q < 64) : bits .xor .i64 (q : Int) 1 = ((q ^^^ 1 : Nat) : Int) := by
  have : ∀ x : Fin 64, bits .xor .i64 (x.val : Int) 1 = ((x.val ^^^ 1 : Nat) : Int) := by decide +kernel
  exact this ⟨q, h⟩
theorem xor_sib (i l : Nat) (hi : i < 64) : bits .xor .i64 ((i : Int) / 2 ^ l) 1 = (sib i l : Int) := by
  have e : (i : Int) / 2 ^ l = ((i / 2 ^ l : Nat) : Int) := by simp
  rw [e, xor_one _ (Nat.lt_of_le_of_lt (Nat.div_le_self _ _) hi)]
  rfl

theorem flat16_length : ∀ (K : List (List UInt8)), (∀ x ∈ K, x.length = 16) → K.flatten.length = 16 * K.length
  | [], _ => rfl
  | x :: K, h => by
    rw [List.flatten_cons, List.length_append, flat16_length K (fun y hy => h y (List.mem_cons_of_mem _ hy)), h x (List.mem_cons_self ..), List.length_cons]; omega
theorem seg_flat : ∀ (K : List (List UInt8)), (∀ x ∈ K, x.length = 16) → ∀ (l : Nat), l < K.length → ∀ d : List UInt8, d.length = 16 → seg (bs K.flatten) (l * 16) (bs d) = bs (K.set l d).flatten
  | [], _, l, hl, _, _ => by simp at hl
  | x :: K, h, 0, _, d, hd => by
    have hx : x.length = 16 := h x (List.mem_cons_self ..)
    unfold seg
    rw [Nat.zero_mul, List.take_zero, List.nil_append, Nat.zero_add, bs_length, hd, bs_drop, List.set_cons_zero, List.flatten_cons, List.flatten_cons, bs_append,
      List.drop_append_of_le_length (by omega), List.drop_eq_nil_of_le (by omega), List.nil_append]
  | x :: K, h, l + 1, hl, d, hd => by
    have hx : x.length = 16 := h x (List.mem_cons_self ..)
    have ih := seg_flat K (fun y hy => h y (List.mem_cons_of_mem _ hy)) l (by simpa using hl) d hd
    have hbx : (bs x).length = 16 := by rw [bs_length, hx]
    have e1 : (bs (x :: K).flatten) = bs x ++ bs K.flatten := by rw [List.flatten_cons, bs_append]
    have e2 : bs ((x :: K).set (l + 1) d).flatten = bs x ++ bs (K.set l d).flatten := by rw [List.set_cons_succ, List.flatten_cons, bs_append]
    rw [e1, e2, ← ih]
    unfold seg
    rw [List.take_append, List.take_of_length_le (by omega), List.drop_append, List.drop_eq_nil_of_le (by omega), List.nil_append, hbx,
      show (l + 1) * 16 - 16 = l * 16 by omega, show (l + 1) * 16 + (bs d).length - 16 = l * 16 + (bs d).length by omega, List.append_assoc, List.append_assoc, List.append_assoc]

set_option maxRecDepth 100000 in
set_option maxHeartbeats 4000000 in
theorem treeBody (seed : ByteArray) (h i gs gn gh gi gb gd l k : Nat) (L : List (List UInt8)) (w : World) (hw : TreeAt seed h i gs gn gh gi gb gd w) (hd : Blk w gd 29 (dgs L)) (hL : L.length = h) (hL16 : ∀ x ∈ L, x.length = 16)
    (hs : seed.size ≤ 1000) (hh6 : h ≤ 6) (hi : i < 64) (hlh : l ≤ h) (hkl : (k + 1) * 2 ^ l ≤ 64)
    (hrec : ∀ (l' k' : Nat) (L' : List (List UInt8)) (w' : World), l = l' + 1 → (k' + 1) * 2 ^ l' ≤ 64 → TreeAt seed h i gs gn gh gi gb gd w' → Blk w' gd 29 (dgs L') → L'.length = h → (∀ x ∈ L', x.length = 16) →
      Calls Tryd.prog 63 #[.int .i64 (l' : Int), .int .i64 (k' : Int), .pointer (some ⟨gs, 0, none⟩), .pointer (some ⟨gn, 0, none⟩), .pointer (some ⟨gh, 0, none⟩), .pointer (some ⟨gi, 0, none⟩), .pointer (some ⟨gb, 0, none⟩)] w' (TreePost seed h i gd l' k' L' w')) :
    Calls Tryd.prog 63 #[.int .i64 (l : Int), .int .i64 (k : Int), .pointer (some ⟨gs, 0, none⟩), .pointer (some ⟨gn, 0, none⟩), .pointer (some ⟨gh, 0, none⟩), .pointer (some ⟨gi, 0, none⟩), .pointer (some ⟨gb, 0, none⟩)] w (TreePost seed h i gd l k L w) := by
  have hz := Tryd.zero29
  have HW := Lib.hid hw
  have HD := Lib.hid hd
  have HL := Lib.hid hL
  have HL16 := Lib.hid hL16
  have HREC := Lib.hid hrec
  have HKL := Lib.hid hkl
  have hk64 : k < 64 := by
    have := Nat.le_mul_of_pos_right (k + 1) (Nat.pos_of_ne_zero (show 2 ^ l ≠ 0 by simp)); omega
  clear hw hd hL hL16 hrec hkl
  go_enter Tryd.func63, Tryd.ntmps63
  go_upto_if 12 with fail
  generalize hw0 : World.alloc _ _ = w0
  have H0 : Hid (Blk w0 w.heap.size 3 #[.int .i64 (k : Int)] ∧ Blk w0 (w.heap.size + 1) 29 (bs z16).toArray ∧ Blk w0 (w.heap.size + 1 + 1) 29 (bs z16).toArray ∧ Below w.heap.size w w0) := by
    rw [← hw0]
    exact ⟨((Blk.new w 3 _).alloc _).alloc _, (Blk.new_at _ 29 (size_alloc _ _).symm rfl).alloc _, Blk.new_at _ 29 (by simp) rfl, ba (ba (below_new _ _) _) _⟩
  clear hw0
  have HD0 := Lib.hid (blk_past H0.out.2.2.2 HD.out)
  have HW0 := Lib.hid (HW.out.kp HD.out (Kp.of H0.out.2.2.2))
  have hgd := HD.out.lt
  obtain ⟨d, hd⟩ : ∃ d, d = nodeB seed.data.toList l k := ⟨_, rfl⟩
  have hdl : d.length = 16 := by rw [hd]; exact nodeB_16 _ _ _
  have HDN := Lib.hid hd
  have HDL := Lib.hid hdl
  have HS16 := Lib.hid (size16 hdl)
  clear hd hdl
  go_cut [10] (fun s10 wx => s10 = .pointer (some ⟨w.heap.size + 1 + 1, 0, none⟩) ∧ Hid (Blk wx w.heap.size 3 #[.int .i64 (k : Int)] ∧ Blk wx (w.heap.size + 1) 29 (bs z16).toArray ∧ Blk wx (w.heap.size + 1 + 1) 29 (bs d).toArray ∧ Blk wx gd 29 (dgs (kidsB seed.data.toList h i l k L)) ∧ Kp gd w wx))
  case first =>
    rcases l with _ | l
    · have hb0 : (((0 : Nat) : Int) == 0) = true := rfl
      have hclo := Lib.hid (fun (c : Nat) (W : World) (hc : c < 68) (hW : Below w0.heap.size w0 W) => topClo seed k c gs w.heap.size W (HW0.out.k.below hW) hs (blk_past hW HW0.out.s) (blk_past hW H0.out.1) (by omega) (by omega))
      go_wp2_with (first
        | (go_at_call 54; refine (leafT (topB seed.data.toList k) gs w.heap.size _ HW0.out.k (topB_16 _ _) hclo.out).mono ?_; rintro e w1 ⟨rfl, hb1⟩; rw [show leafB (topB seed.data.toList k) = d from HDN.out.symm]; have HB1 := Lib.hid hb1; clear hb1)
        | (refine wpList_store_row rfl 29 (.tmp 10) (.tmp 14) rfl (w.heap.size + 1 + 1) (bs d).toArray rfl rfl 29 _ (blk_past HB1.out H0.out.2.2.1) HS16.out (by rw [sz16 HDL.out, sz16 z16_length]) (all_oneCell_toArray (bs_one _)) ?_))
      go_meet
      exact ⟨rfl, (blk_past HB1.out H0.out.1).setRow_far (by omega) _, (blk_past HB1.out H0.out.2.1).setRow_far (by omega) _, (blk_past HB1.out H0.out.2.2.1).setRow _, (blk_past HB1.out HD0.out).setRow_far (by omega) _, ((Kp.of H0.out.2.2.2).then HB1.out).setRow (.inl (by omega)) _⟩
    · have hb0 : ((((l + 1 : Nat) : Int)) == 0) = false := by simp; omega
      go_wp2_with fail
      obtain ⟨m, hm⟩ : ∃ m, m = 2 * k := ⟨_, rfl⟩
      obtain ⟨m1, hm1⟩ : ∃ m1, m1 = 2 * k + 1 := ⟨_, rfl⟩
      obtain ⟨x, hx⟩ : ∃ x, x = nodeB seed.data.toList l m := ⟨_, rfl⟩
      obtain ⟨y, hy⟩ : ∃ y, y = nodeB seed.data.toList l m1 := ⟨_, rfl⟩
      have hxl : x.length = 16 := by rw [hx]; exact nodeB_16 _ _ _
      have hyl : y.length = 16 := by rw [hy]; exact nodeB_16 _ _ _
      have hxy : parentB x y m = d := by
        rw [HDN.out, parentB, if_neg (by omega), hx, hy, hm, hm1]; rfl
      have hk1 : (m + 1) * 2 ^ l ≤ 64 := by
        have h1 := HKL.out
        rw [Nat.pow_succ] at h1
        have h2 : (m + 1) * 2 ^ l ≤ (k + 1) * (2 ^ l * 2) := by
          rw [show (k + 1) * (2 ^ l * 2) = (2 * (k + 1)) * 2 ^ l by rw [Nat.mul_comm (2 ^ l) 2, ← Nat.mul_assoc, Nat.mul_comm (k + 1) 2]]
          exact Nat.mul_le_mul_right _ (by omega)
        omega
      have hk2 : (m1 + 1) * 2 ^ l ≤ 64 := by
        have h1 := HKL.out
        rw [Nat.pow_succ] at h1
        have h2 : (m1 + 1) * 2 ^ l ≤ (k + 1) * (2 ^ l * 2) := by
          rw [show (k + 1) * (2 ^ l * 2) = (2 * (k + 1)) * 2 ^ l by rw [Nat.mul_comm (2 ^ l) 2, ← Nat.mul_assoc, Nat.mul_comm (k + 1) 2]]
          exact Nat.mul_le_mul_right _ (by omega)
        omega
      have HR1 := Lib.hid (HREC.out l m L w0.drew rfl hk1 (HW0.out.kp HD0.out Kp.refl.drew) HD0.out.drew HL.out HL16.out)
      have HV1 := Lib.hid (show (visitB seed.data.toList h i l m L).length = h ∧ ∀ x ∈ visitB seed.data.toList h i l m L, x.length = 16 from ⟨by rw [visitB_length]; exact HL.out, visitB_16 _ _ HL16.out⟩)
      have HKID := Lib.hid (show visitB seed.data.toList h i l m1 (visitB seed.data.toList h i l m L) = kidsB seed.data.toList h i (l + 1) k L by rw [hm, hm1]; rfl)
      have a1 : IntKind.i64.wrap (l : Int) = (l : Int) := IntWalk.i64_in _ (by omega)
      have a2 : IntKind.i64.wrap (2 * (k : Int)) = (m : Int) := by rw [IntWalk.i64_in _ (by omega)]; omega
      have a3 : IntKind.i64.wrap ((m : Int) + 1) = (m1 : Int) := by rw [IntWalk.i64_in _ (by omega)]; omega
      have HX := Lib.hid hx
      have HY := Lib.hid hy
      have HXL := Lib.hid hxl
      have HYL := Lib.hid hyl
      have HXY := Lib.hid hxy
      have HK2 := Lib.hid hk2
      have hng := Ne.symm (Nat.ne_of_lt hgd)
      have HNG := Lib.hid hng
      have ga := one_cell HW0.out.n
      have gk := one_cell H0.out.1
      have hla : (bs d).length = 16 := by rw [bs_length]; exact HDL.out
      have hon := bs_one d
      have hsd : (Tryd.prog.info? 29).map (·.size) = some (bs d).length := by rw [hla]; exact Tryd.size29
      clear hm hm1 hx hy hxl hyl hxy hk1 hk2 hng
      go_region_held3 (fun w' => w'.cell? ⟨gn, 0, none⟩ = some (.func (.func 63) #[] #[.pointer (some ⟨gs, 0, none⟩), .pointer (some ⟨gn, 0, none⟩), .pointer (some ⟨gh, 0, none⟩), .pointer (some ⟨gi, 0, none⟩), .pointer (some ⟨gb, 0, none⟩)]) ∧ w'.cell? ⟨w.heap.size, 0, none⟩ = some (.int .i64 (k : Int)))
        (first | exact ⟨ga, gk⟩ | exact ⟨ga1, gk1⟩ | exact ⟨ga2, gk2⟩ | exact ⟨ga3, gk3⟩ | exact ⟨ga4, gk4⟩)
        (first
          | (go_at_call 63; ((with_reducible refine HR1.out.mono ?_); rintro e w1 ⟨rfl, hd1, hp1⟩); rw [← HX.out]; have HP1 := Lib.hid ((Kp.of H0.out.2.2.2).trans (Kp.refl.drew.trans hp1)); have HD1 := Lib.hid hd1; have HW1 := Lib.hid ((HW0.out.kp HD0.out Kp.refl.drew).kp HD0.out.drew hp1); have HB1 := Lib.hid (H0.out.1.drew.kp hp1 HNG.out); have HZ1 := Lib.hid (H0.out.2.1.drew.kp hp1 (by omega)); have HE1 := Lib.hid (H0.out.2.2.1.drew.kp hp1 (by omega)); have ga1 := one_cell HW1.out.n; have gk1 := one_cell HB1.out; have HR2 := Lib.hid (HREC.out l m1 _ w1 rfl HK2.out HW1.out HD1.out HV1.out.1 HV1.out.2); clear hd1 hp1)
          | (go_at_call 63; ((with_reducible refine HR2.out.mono ?_); rintro e w2 ⟨rfl, hd2, hp2⟩); rw [← HY.out]; rw [HKID.out] at hd2; have HP2 := Lib.hid (HP1.out.trans hp2); have HD2 := Lib.hid hd2; have HW2 := Lib.hid (HW1.out.kp HD1.out hp2); have HB2 := Lib.hid (HB1.out.kp hp2 HNG.out); have HZ2 := Lib.hid (HZ1.out.kp hp2 (by omega)); have HE2 := Lib.hid (HE1.out.kp hp2 (by omega)); have ga2 := one_cell HW2.out.n; have gk2 := one_cell HB2.out; have HR3 := Lib.hid (parent x y m w2 HW2.out.k HXL.out HYL.out); clear hd2 hp2)
          | (go_at_call 56; ((with_reducible refine HR3.out.mono ?_); rintro e w3 ⟨rfl, hb3⟩); rw [HXY.out]; have HP3 := Lib.hid (HP2.out.then hb3); have HD3 := Lib.hid (blk_past hb3 HD2.out); have HB3 := Lib.hid (blk_past hb3 HB2.out); have HZ3 := Lib.hid (blk_past hb3 HZ2.out); have HE3 := Lib.hid (blk_past hb3 HE2.out); have hth := there16 HE3.out z16_length; have HSC := Lib.hid (setCells16 HE3.out z16_length HDL.out); have ga3 := one_cell (blk_past hb3 HW2.out.n); have gk3 := one_cell HB3.out; have ga4 := cell_sc HSC.out (one_cell ((blk_past hb3 HW2.out.n).setRow_far (by have := HW.out.n.lt; omega) (bs d).toArray)); have gk4 := cell_sc HSC.out (one_cell (HB3.out.setRow_far (by omega) (bs d).toArray)); clear hb3))
      go_wp2_with fail
      go_meet
      rw [HSC.out]
      exact ⟨rfl, HB3.out.setRow_far (by omega) _, HZ3.out.setRow_far (by omega) _, HE3.out.setRow _, HD3.out.setRow_far (by omega) _, HP3.out.setRow (.inl (by omega)) _⟩
  case rest =>
    obtain ⟨rfl, hh⟩ := hcut
    clear H0 HD0 HW0 HREC
    have HWc := Lib.hid (HW.out.kp HD.out hh.out.2.2.2.2)
    have hc1 := one_cell HWc.out.hh
    have hc2 := one_cell HWc.out.i
    have hc3 := one_cell hh.out.1
    obtain ⟨r, hr⟩ : ∃ r, r = sib i l := ⟨_, rfl⟩
    have hx : bits .xor .i64 ((i : Int) / 2 ^ l) 1 = (r : Int) := by rw [hr]; exact xor_sib i l hi
    have hc4 := one_cell HWc.out.b
    by_cases hlt : l < h
    · have hb1 : (l : Int) < (h : Int) := by omega
      by_cases hkr : k = r
      · have hb2 : ((k : Int) == (r : Int)) = true := by simp [hkr]
        have hkl : l < (kidsB seed.data.toList h i l k L).length := by rw [kidsB_length, HL.out]; exact hlt
        have hk16 := kidsB_16 (seed := seed.data.toList) (h := h) (i := i) (l := l) (k := k) HL16.out
        have HSL := Lib.hid (show (Tryd.prog.info? 29).map (·.size) = some (bs d).length by rw [bs_length, HDL.out]; exact Tryd.size29)
        have HFIT := Lib.hid (show l * 16 + (bs d).length ≤ (bs (kidsB seed.data.toList h i l k L).flatten).length by rw [bs_length, bs_length, HDL.out, flat16_length _ hk16]; omega)
        have HSEG := Lib.hid (show (seg (bs (kidsB seed.data.toList h i l k L).flatten) (l * 16) (bs d)).toArray = dgs (visitB seed.data.toList h i l k L) by
          rw [visitB_kids, putB, if_pos ⟨hlt, hkr.trans hr⟩, ← HDN.out, seg_flat _ hk16 l hkl d HDL.out]; rfl)
        clear hkr hr hkl hk16
        go_wp2
        go_quiet (fail)
        go_wp2_with (first
          | (refine wpList_load_row rfl 29 (.tmp 10) rfl (w.heap.size + 1 + 1) rfl 29 (bs d).toArray (0, 0) _ (hh.out.2.2.1.drewN nq) Tryd.underlying29 rfl HS16.out ?_)
          | (refine wpList_store_seg _ rfl 29 (.tmp 45) (.tmp 44) rfl gd (l * 16) (bs d) rfl rfl 29 (bs (kidsB seed.data.toList h i l k L).flatten) (hh.out.2.2.2.1.drewN nq) HSL.out HFIT.out (bs_one d) ?_
             intro w5 hw5
             rw [HSEG.out] at hw5
             have HG5 : Hid (Blk w5 gd 29 (dgs (visitB seed.data.toList h i l k L))) := by rw [hw5]; exact (hh.out.2.2.2.1.drewN nq).setRow _
             have HE5 : Hid (Blk w5 (w.heap.size + 1 + 1) 29 (bs d).toArray) := by rw [hw5]; exact (hh.out.2.2.1.drewN nq).setRow_far (by omega) _
             have HZ5 : Hid (Blk w5 (w.heap.size + 1) 29 (bs z16).toArray) := by rw [hw5]; exact (hh.out.2.1.drewN nq).setRow_far (by omega) _
             have HP5 : Hid (Kp gd w w5) := by rw [hw5]; exact (hh.out.2.2.2.2.drewN nq).setRow (.inr rfl) _
             clear hw5)
          | (refine wpList_load_row rfl 29 (.tmp 10) rfl (w.heap.size + 1 + 1) rfl 29 (bs d).toArray (0, 0) _ HE5.out Tryd.underlying29 rfl HS16.out ?_)
          | (refine wpList_store_row rfl 29 (.tmp 9) (.tmp 46) rfl (w.heap.size + 1) (bs d).toArray rfl rfl 29 _ HZ5.out HS16.out (by rw [sz16 HDL.out, sz16 z16_length]) (all_oneCell_toArray (bs_one _)) ?_))
        refine bodyPost_ret (results_cell_row Tryd.results63 _ _ (w.heap.size + 1) 29 (bs d).toArray (0, 0) _ rfl (HZ5.out.setRow _) Tryd.underlying29 rfl HS16.out) rfl ⟨by rw [HDN.out], HG5.out.setRow_far (by omega) _, HP5.out.setRow (.inl (by omega)) _⟩
      · have hb2 : ((k : Int) == (r : Int)) = false := by simp; omega
        have HVI := Lib.hid (show visitB seed.data.toList h i l k L = kidsB seed.data.toList h i l k L by rw [visitB_kids, putB, if_neg (fun c => hkr (c.2.trans hr.symm))])
        clear hkr hr
        go_wp2
        go_quiet (fail)
        go_wp2_with (first
          | (refine wpList_load_row rfl 29 (.tmp 10) rfl (w.heap.size + 1 + 1) rfl 29 (bs d).toArray (0, 0) _ (hh.out.2.2.1.drewN nq) Tryd.underlying29 rfl HS16.out ?_)
          | (refine wpList_store_row rfl 29 (.tmp 9) (.tmp 46) rfl (w.heap.size + 1) (bs d).toArray rfl rfl 29 _ (hh.out.2.1.drewN nq) HS16.out (by rw [sz16 HDL.out, sz16 z16_length]) (all_oneCell_toArray (bs_one _)) ?_))
        refine bodyPost_ret (results_cell_row Tryd.results63 _ _ (w.heap.size + 1) 29 (bs d).toArray (0, 0) _ rfl ((hh.out.2.1.drewN nq).setRow _) Tryd.underlying29 rfl HS16.out) rfl ⟨by rw [HDN.out], by rw [HVI.out]; exact (hh.out.2.2.2.1.drewN nq).setRow_far (by omega) _, (hh.out.2.2.2.2.drewN nq).setRow (.inl (by omega)) _⟩
    · have hb1 : decide (l < h) = false := by simp; omega
      have HVI := Lib.hid (show visitB seed.data.toList h i l k L = kidsB seed.data.toList h i l k L by rw [visitB_kids, putB, if_neg (fun c => hlt c.1)])
      clear hlt hr
      go_wp2
      go_quiet (fail)
      go_wp2_with (first
        | (refine wpList_load_row rfl 29 (.tmp 10) rfl (w.heap.size + 1 + 1) rfl 29 (bs d).toArray (0, 0) _ (hh.out.2.2.1.drewN nq) Tryd.underlying29 rfl HS16.out ?_)
        | (refine wpList_store_row rfl 29 (.tmp 9) (.tmp 46) rfl (w.heap.size + 1) (bs d).toArray rfl rfl 29 _ (hh.out.2.1.drewN nq) HS16.out (by rw [sz16 HDL.out, sz16 z16_length]) (all_oneCell_toArray (bs_one _)) ?_))
      refine bodyPost_ret (results_cell_row Tryd.results63 _ _ (w.heap.size + 1) 29 (bs d).toArray (0, 0) _ rfl ((hh.out.2.1.drewN nq).setRow _) Tryd.underlying29 rfl HS16.out) rfl ⟨by rw [HDN.out], by rw [HVI.out]; exact (hh.out.2.2.2.1.drewN nq).setRow_far (by omega) _, (hh.out.2.2.2.2.drewN nq).setRow (.inl (by omega)) _⟩
end Go.Proofs.YtaoegpmjogladaaDoor
