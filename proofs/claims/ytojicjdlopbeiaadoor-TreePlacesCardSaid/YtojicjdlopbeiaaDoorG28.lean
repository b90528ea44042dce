/-
  The walk of the law that the places, and what is put there, are those of the reference.
-/
import Derived.Test.YtojicjdlopbeiaaDoorG27
import Derived.Deep.RegionWith
import Derived.Deep.RegionHeld2
import Derived.Deep.RegionHeld3
set_option linter.unusedVariables false
namespace Go.Proofs.YtojicjdlopbeiaaDoor
open Go.RowKit WM TR

theorem all_ps {w : World} {p P : List Int} {i : Int} {A6 A8 A10 C : Option Addr} {c6 c8 c10 cP pl : Nat} (hpl : pl = p.length) (h6 : RdAt w A6 p) (hc6 : pl ≤ c6) (h8 : RdAt w A8 (p ++ [i])) (hc8 : pl + 1 ≤ c8) (h10 : RdAt w A10 (p ++ [0])) (hc10 : pl + 1 ≤ c10) (hC : RdAt w C P) (hcP : P.length ≤ cP) :
    PsAt (w.alloc (.cells #[.slice A6 pl c6, .slice A8 (pl + 1) c8, .slice A10 (pl + 1) c10, .slice C P.length cP, .slice none 0 0] 22)) (some ⟨w.heap.size, 0, none⟩) [p, p ++ [i], p ++ [0], P, []] := by
  subst hpl
  have hB := Blk.new w 22 #[.slice A6 p.length c6, .slice A8 (p.length + 1) c8, .slice A10 (p.length + 1) c10, .slice C P.length cP, .slice none 0 0]
  have hb := below_new w (.cells #[.slice A6 p.length c6, .slice A8 (p.length + 1) c8, .slice A10 (p.length + 1) c10, .slice C P.length cP, .slice none 0 0] 22)
  refine ⟨[.slice A6 p.length c6, .slice A8 (p.length + 1) c8, .slice A10 (p.length + 1) c10, .slice C P.length cP, .slice none 0 0], ⟨rfl, fun _ => ⟨_, rfl, hB.lt, fun j u hu => by rw [Addr.add_lit, Nat.zero_add, hB.cell]; simpa using hu⟩⟩, ?_⟩
  intro i q hq
  match i, hq with
  | 0, hq => cases hq; exact ⟨A6, c6, rfl, hc6, h6.next hb⟩
  | 1, hq => cases hq; exact ⟨A8, c8, by simp, by simpa using hc8, h8.next hb⟩
  | 2, hq => cases hq; exact ⟨A10, c10, by simp, by simpa using hc10, h10.next hb⟩
  | 3, hq => cases hq; exact ⟨C, cP, rfl, hcP, hC.next hb⟩
  | 4, hq => cases hq; exact ⟨none, 0, rfl, Nat.le_refl _, Rd.none_⟩
  | n + 5, hq => simp at hq

set_option maxRecDepth 100000 in
set_option maxHeartbeats 8000000 in
theorem placesLaw_is (L M P : List Int) (at_ : Int) (S : Nat → Prop) (A B C : Option Addr) (c c' c'' : Nat) (w : World) (hL : Rd w S 1 A L.length (vi L)) (hM : Rd w S 1 B M.length (vi M)) (hP : Rd w S 1 C P.length (vi P)) (hin : In S w.heap.size) (hrL : ∀ x ∈ L, inRange x) (hrM : ∀ x ∈ M, inRange x) (hlL : L.length ≤ 9223372036854775807) (hlM : M.length ≤ 9223372036854775807) (hlP : P.length ≤ 9223372036854775807) (hcP : P.length ≤ c'') (ha : inRange at_) (hT : ST w) (hg : 0 < w.heap.size) :
    Calls Tryd.prog 4 #[.slice A L.length c, .slice B M.length c', .slice C P.length c'', .int .i64 at_] w fun e w' => e = .returned (.bool true) ∧ Below w.heap.size w w' := by
  obtain ⟨x, hx⟩ : ∃ x, x = genTree L := ⟨_, rfl⟩
  obtain ⟨y, hy⟩ : ∃ y, y = genTree M := ⟨_, rfl⟩
  obtain ⟨n, hn⟩ : ∃ n, n = size x := ⟨_, rfl⟩
  have hsx : size x ≤ 4096 := by rw [hx]; exact genTree_size L
  have hsy : size y ≤ 4096 := by rw [hy]; exact genTree_size M
  have hn0 : 0 < n := by rw [hn]; exact size_pos x
  have hn1 : n ≤ 4096 := by omega
  have har := arnd_le (x := at_) (n := (n : Int)) (by omega)
  obtain ⟨k, hk⟩ : ∃ k : Nat, arnd at_ (n : Int) = (k : Int) := ⟨(arnd at_ n).toNat, by omega⟩
  have hkb : (0 : Int) ≤ k ∧ (k : Int) < n := ⟨by omega, by omega⟩
  have hpn : (paths x).length = n := by rw [paths_length, hn]
  obtain ⟨p, hp⟩ : ∃ p, (paths x)[k]? = some p := ⟨_, List.getElem?_eq_getElem (by omega)⟩
  obtain ⟨pl, hpl⟩ : ∃ pl, pl = p.length := ⟨_, rfl⟩
  have hplb : pl ≤ 4096 := by have := path_le x p (List.mem_of_getElem? hp); omega
  have HTX : Hid (∀ W, Below w.heap.size w W → Calls Tryd.prog 10 #[.slice A L.length c] W (MadeT x 6 W)) := Lib.hid (fun W hb => by rw [hx]; exact Tree_is L S A c W (hL.keep (Keeps.below hin hb)) (hin.more hb.size) hrL hlL)
  have HTY : Hid (∀ W, Below w.heap.size w W → Calls Tryd.prog 10 #[.slice B M.length c'] W (MadeT y 6 W)) := Lib.hid (fun W hb => by rw [hy]; exact Tree_is M S B c' W (hM.keep (Keeps.below hin hb)) (hin.more hb.size) hrM hlM)
  have HRP : Hid (∀ W, Below w.heap.size w W → RdAt W C P) := Lib.hid (fun W hb => (hP.keep (Keeps.below hin hb)).mono fun b hb' => Nat.lt_of_lt_of_le (hin b hb') hb.size)
  have HAR : Hid (∀ W, Calls Tryd.prog 14 #[.int .i64 at_, .int .i64 (n : Int)] W fun e w' => e = .returned (.int .i64 (k : Int)) ∧ W = w') := Lib.hid (fun W => by rw [← hk]; exact around_is at_ n ha (by omega) W)
  have HPB : Hid (∀ q ∈ paths x, q.length ≤ 1000000) := Lib.hid (fun q hq => by have := path_le x q hq; omega)
  obtain ⟨all, hall⟩ : ∃ all, all = [p, p ++ [at_], p ++ [0], P, []] := ⟨_, rfl⟩
  have HAL : Hid (∀ q ∈ all, q.length ≤ 9223372036854775807) := Lib.hid (fun q hq => by
    rw [hall] at hq
    simp only [List.mem_cons, List.not_mem_nil, or_false] at hq
    rcases hq with rfl | rfl | rfl | rfl | rfl
    · omega
    · simp; omega
    · simp; omega
    · exact hlP
    · simp)
  have HALL := Lib.hid hall
  have HLEN : Hid (all.length = 5) := Lib.hid (by rw [hall]; rfl)
  have HPL := Lib.hid hpl
  have HP := Lib.hid hp
  have HPN := Lib.hid hpn
  have HSX : Hid (size x = n) := Lib.hid hn.symm
  have HSX2 : Hid (size x ≤ 1000000) := Lib.hid (by omega)
  have HSX3 : Hid (size x ≤ 4096) := Lib.hid hsx
  have HSY : Hid (size y ≤ 1000000) := Lib.hid (by omega)
  have HSY3 : Hid (size y ≤ 4096) := Lib.hid hsy
  have HCP := Lib.hid hcP
  have HT := Lib.hid hT
  have HG := Lib.hid hg
  have HN : Hid (n ≤ 1000000) := Lib.hid (by omega)
  have HR0 := Lib.hid (Below.refl w.heap.size w)
  obtain ⟨i0, hi, hz0, hz1, hz2⟩ := info_parts ps_int_info
  have hmo : Tryd.prog.follows .mixedOrders = true := by kernel_rfl
  clear hx hy hn hsx hsy har hk hpn hp hL hM hP hin hrL hrM hlL hlM hlP hcP ha hT hg hall hpl
  go_enter Tryd.func4, Tryd.ntmps4
  go_wp2_with (first
    | (refine wpList_load_mid rfl 25 (.tmp 9) rfl w1.heap.size 0 rfl [.int .i64 x.k, .int .i64 x.n, .int .i64 x.m, .slice A1 x.kids.length c1] _ H9.load Tryd.underlying25 rfl (by rw [size_node]; rfl) ?_)
    | (go_at_call 10; have hm := hb1; refine (HTY.out _ (ba hb1 _)).mono ?_; rintro e w2 ⟨A2, c2, rfl, hr2, hb2⟩
       have hb2' : Below w2.heap.size w2 (w2.alloc (.cells #[.int .i64 y.k, .int .i64 y.n, .int .i64 y.m, .slice A2 y.kids.length c2] 25)) := below_new _ _
       have hbw := bt (bt (ba hb1 _) hb2) hb2'
       have H9 : Held w2 w1.heap.size x 6 A1 c1 := (Held.new hr1 (fun b hb => hb.2)).next hb2
       replace H9 := H9.next hb2'
       have H10 := Held.new hr2 (fun b hb => hb.2)
       clear hb2' hr1 hr2 hb2 hm)
    | (go_at_call 10; refine (HTX.out _ HR0.out).mono ?_; rintro e w1 ⟨A1, c1, rfl, hr1, hb1⟩)
    | (go_at_call 22; refine (paths_is 6 x _ A1 c1 _ H9.2 (in_lt _) HSX2.out).mono ?_; rintro e w3 ⟨A3, c3, rfl, hcap3, hps3, hb3⟩; rw [HSX.out]; have HPS : PsAt w3 A3 (paths x) := hps3.mono fun b hb => hb.2; clear hps3 hcap3; replace H9 := H9.next hb3; replace H10 := H10.next hb3; replace hbw := bt hbw hb3; clear hb3)
    | (go_at_call 24; refine (tpaths_is 6 x _ A1 c1 _ H9.2 (in_lt _) HSX2.out).mono ?_; rintro e w4 ⟨A4, c4, rfl, hcap4, hps4, hb4⟩; rw [HSX.out]; have HPS4 : PsAt w4 A4 (paths x) := hps4.mono fun b hb => hb.2; clear hps4 hcap4; replace HPS := HPS.next hb4; replace H9 := H9.next hb4; replace H10 := H10.next hb4; replace hbw := bt hbw hb4; clear hb4)
    | (go_at_call 23
       have HSP := samePaths_is (paths x) (paths x) _ A4 A3 c4 c3 _ HPS4 HPS (in_lt _) (by rw [HPN.out]; exact HN.out) HPB.out HPB.out true (by simp)
       rw [HPN.out] at HSP
       refine HSP.mono ?_
       clear HSP
       rintro e w5 ⟨rfl, hb5⟩
       replace HPS := HPS.next hb5
       replace H9 := H9.next hb5; replace H10 := H10.next hb5; replace hbw := bt hbw hb5
       obtain ⟨b5, o5, A6, c6, hA5, hs5, hc5, hcq, hr6⟩ := HPS.at_ HP.out
       subst hA5
       have HP6 : RdAt w5 A6 p := hr6
       rw [← HPL.out] at hc5 hcq
       clear hb5 HPS4 hr6)
    | (go_at_call 14; refine (HAR.out _).mono ?_; rintro e w' ⟨rfl, rfl⟩)
    | (at_builtin; refine wpList_append_any _ rfl (.tmp 42) (.tmp 43) 22 rfl w5.heap.size 3 i0 _ 1 8 Tryd.underlying22 hi hz0 hz1 hz2 rfl (by omega) _ 0 [] rfl (own_lit (xs := []) (n := 0) (Nat.le_refl _) rfl (len_le (by omega))) _ A6 pl c6 (vi p) rfl (by rw [HPL.out]; exact (Rd.keep HP6 (Keeps.below (in_lt _) (below_new w5 _))).reads ((in_lt _).more (below_new w5 (.cells #[] 3)).size)) (vi_one p) (len_le (by omega)) (by omega) (by simp) ?_
       intro v7 w7 hown7 hgrow7 hq7
       replace hown7 := own_nil hown7
       obtain ⟨A7, c7, hv7, hcap7⟩ := own_len hown7
       subst hv7
       have hb7 : Below w5.heap.size w5 w7 := below_grown hgrow7 (fun b hb => Nat.le_of_eq (Option.some.inj hb))
       clear hgrow7 hq7)
    | (at_builtin; refine wpList_append_any _ rfl (.tmp 44) (.tmp 46) 22 rfl w5.heap.size 3 i0 _ 1 8 Tryd.underlying22 hi hz0 hz1 hz2 rfl (by omega) _ pl (vi p) rfl (ownsRow_below hown7 (below_new _ _)) _ (some ⟨w7.heap.size, 0, none⟩) 1 1 (vi [at_]) rfl (int_reads w7 at_) (vi_one _) (len_le (by omega)) (by omega) (by have := hb7.size; simp; omega) ?_
       intro v8 w8 hown8 hgrow8 hq8
       obtain ⟨A8, c8, hv8, hcap8⟩ := own_len hown8
       subst hv8
       have hb8 : Below w5.heap.size w5 w8 := below_grown2 hb7 hgrow8 (fun b hb => (hown7.lt b hb).1)
       have HA8 : RdAt w8 A8 (p ++ [at_]) := RdAt.of_own (base := w5.heap.size) (c := c8) (by rw [List.length_append, ← HPL.out, vi_append]; exact hown8)
       have HQ8 : RdAt w8 A6 p := HP6.next hb8
       replace H9 := H9.next hb8
       replace H10 := H10.next hb8
       replace HP6 := HP6.next hb8
       replace hbw := bt hbw hb8
       clear hgrow8 hq8 hown7 hown8 hcap7 hb7 hb8 hc5 HPS)
    | (at_builtin; refine wpList_append_any _ rfl (.tmp 48) (.tmp 49) 22 rfl w8.heap.size 3 i0 _ 1 8 Tryd.underlying22 hi hz0 hz1 hz2 rfl (by omega) _ 0 [] rfl (own_lit (xs := []) (n := 0) (Nat.le_refl _) rfl (len_le (by omega))) _ A6 pl c6 (vi p) rfl (by rw [HPL.out]; exact (Rd.keep HP6 (Keeps.below (in_lt _) (below_new w8 _))).reads ((in_lt _).more (below_new w8 (.cells #[] 3)).size)) (vi_one p) (len_le (by omega)) (by omega) (by simp) ?_
       intro v9 w9 hown9 hgrow9 hq9
       replace hown9 := own_nil hown9
       obtain ⟨A9, c9, hv9, hcap9⟩ := own_len hown9
       subst hv9
       have hb9 : Below w8.heap.size w8 w9 := below_grown hgrow9 (fun b hb => Nat.le_of_eq (Option.some.inj hb))
       clear hgrow9 hq9)
    | (at_builtin; refine wpList_append_any _ rfl (.tmp 50) (.tmp 51) 22 rfl w8.heap.size 3 i0 _ 1 8 Tryd.underlying22 hi hz0 hz1 hz2 rfl (by omega) _ pl (vi p) rfl (ownsRow_below hown9 (below_new _ _)) _ (some ⟨w9.heap.size, 0, none⟩) 1 1 (vi [0]) rfl (int_reads w9 0) (vi_one _) (len_le (by omega)) (by omega) (by have := hb9.size; simp; omega) ?_
       intro v10 w10 hown10 hgrow10 hq10
       obtain ⟨A10, c10, hv10, hcap10⟩ := own_len hown10
       subst hv10
       have hb10 : Below w8.heap.size w8 w10 := below_grown2 hb9 hgrow10 (fun b hb => (hown9.lt b hb).1)
       have HA10 : RdAt w10 A10 (p ++ [0]) := RdAt.of_own (base := w8.heap.size) (c := c10) (by rw [List.length_append, ← HPL.out, vi_append]; exact hown10)
       replace HA8 := HA8.next hb10
       replace H9 := H9.next hb10
       replace H10 := H10.next hb10
       replace HP6 := HP6.next hb10
       replace hbw := bt hbw hb10
       clear hgrow10 hq10 hown9 hown10 hcap9 hb9 hb10 HQ8))
  obtain ⟨A11, hA11⟩ : ∃ A11, A11 = some (⟨w10.heap.size, 0, none⟩ : Addr) := ⟨_, rfl⟩
  obtain ⟨W11, hW11⟩ : ∃ W11, W11 = w10.alloc (.cells #[.slice A6 pl c6, .slice A8 (pl + 1) c8, .slice A10 (pl + 1) c10, .slice C P.length c'', .slice none 0 0] 22) := ⟨_, rfl⟩
  have hb11 : Below w10.heap.size w10 W11 := by rw [hW11]; exact below_new _ _
  have HPS0 : PsAt W11 A11 all := by rw [hW11, hA11, HALL.out]; exact all_ps HPL.out HP6 hcq HA8 hcap8 HA10 hcap10 (HRP.out _ hbw) HCP.out
  rw [← hW11, ← hA11]
  have X9 := Lib.hid (H9.next hb11)
  have X10 := Lib.hid (H10.next hb11)
  have XPS := Lib.hid HPS0
  have XBW := Lib.hid (bt hbw hb11)
  clear hW11 hA11 hb11 HPS0 H9 H10 HP6 HA8 HA10 hbw hcq hcap8 hcap10 hs5 hi hz0 hz1 hz2
  go_loopw [14] (fun i wr => ∃ j : Nat, j ≤ 5 ∧ i = .int .i64 j ∧ Hid (Below W11.heap.size W11 wr)) (fun i _ => 5 - (intOf i).toNat)
  case atStart => exact ⟨0, Nat.zero_le _, rfl, Below.refl _ _⟩
  case round =>
    obtain ⟨j, hj, rfl, HB⟩ := hrel
    have H9 := X9.out.next HB.out
    have H10 := X10.out.next HB.out
    have HPS := XPS.out.next HB.out
    by_cases hlt : j < 5
    · obtain ⟨q, hq⟩ : ∃ q, all[j]? = some q := ⟨_, List.getElem?_eq_getElem (by rw [HLEN.out]; exact hlt)⟩
      obtain ⟨b6, o6, A12, c12, hA6, hs6, hc6, hcq6, hr6⟩ := HPS.at_ hq
      subst hA6
      have hr6 : RdAt wr A12 q := hr6
      have hql := HAL.out q (List.mem_of_getElem? hq)
      have hij : (0 : Int) ≤ j ∧ (j : Int) < 5 := ⟨by omega, by omega⟩
      obtain ⟨u, hu⟩ : ∃ u, (at? q x).getD zeroT = u := ⟨_, rfl⟩
      obtain ⟨r, hr⟩ : ∃ r, (at? q x).isSome = r := ⟨_, rfl⟩
      obtain ⟨v, hv⟩ : ∃ v, (set? q x y).getD zeroT = v := ⟨_, rfl⟩
      obtain ⟨ce, hce⟩ : ∃ ce, codeOf (set? q x y) = ce := ⟨_, rfl⟩
      obtain ⟨ix, hix⟩ : ∃ ix, idxI (idx q x) = ix := ⟨_, rfl⟩
      have HSU : Hid (size u ≤ 1000000) := Lib.hid (by rw [← hu]; exact getD_size (fun t ht => by have := at_size q x t ht; have := HSX2.out; omega) (by omega))
      have HSV : Hid (size v ≤ 1000000) := Lib.hid (by rw [← hv]; exact getD_size (fun t ht => by have := set_size y q x t ht; have := HSX3.out; have := HSY3.out; omega) (by omega))
      have hrr : (r != r) = false := by simp
      have hee : (ce != ce) = false := by simp
      have hii : (ix != ix) = false := by simp
      have HK : Hid (∀ W', Below wr.heap.size wr W' → W'.cell? ⟨w1.heap.size, 0, none⟩ = some (.int .i64 x.k) ∧ W'.cell? ⟨w1.heap.size, 1, none⟩ = some (.int .i64 x.n) ∧ W'.cell? ⟨w1.heap.size, 2, none⟩ = some (.int .i64 x.m) ∧ W'.cell? ⟨w1.heap.size, 3, none⟩ = some (.slice A1 x.kids.length c1) ∧ W'.cell? ⟨w2.heap.size, 0, none⟩ = some (.int .i64 y.k) ∧ W'.cell? ⟨w2.heap.size, 1, none⟩ = some (.int .i64 y.n) ∧ W'.cell? ⟨w2.heap.size, 2, none⟩ = some (.int .i64 y.m) ∧ W'.cell? ⟨w2.heap.size, 3, none⟩ = some (.slice A2 y.kids.length c2) ∧ W'.cell? ⟨b6, o6 + j, none⟩ = some (.slice A12 q.length c12)) := Lib.hid (fun W' h => by
        obtain ⟨k0, k1, k2, k3⟩ := (H9.next h).cells
        obtain ⟨l0, l1, l2, l3⟩ := (H10.next h).cells
        exact ⟨k0, k1, k2, k3, l0, l1, l2, l3, (h.cell (p := ⟨b6, o6 + j, none⟩) hs6).trans hc6⟩)
      have FA : Hid (∀ W', Below wr.heap.size wr W' → Calls Tryd.prog 25 #[.agg #[.int .i64 x.k, .int .i64 x.n, .int .i64 x.m, .slice A1 x.kids.length c1], .slice A12 q.length c12] W' (Out2N wr.heap.size u (.bool r) W')) := Lib.hid (fun W' h => by rw [← hu, ← hr]; exact at_any h H9.2 hr6 HSX2.out hcq6 hql)
      have FB : Hid (∀ W', Below wr.heap.size wr W' → Calls Tryd.prog 26 #[.agg #[.int .i64 x.k, .int .i64 x.n, .int .i64 x.m, .slice A1 x.kids.length c1], .slice A12 q.length c12] W' (Out2N wr.heap.size u (.bool r) W')) := Lib.hid (fun W' h => by rw [← hu, ← hr]; exact rat_any h H9.2 hr6 HSX2.out hcq6 hql)
      have FC : Hid (∀ W', Below wr.heap.size wr W' → Calls Tryd.prog 27 #[.agg #[.int .i64 x.k, .int .i64 x.n, .int .i64 x.m, .slice A1 x.kids.length c1], .slice A12 q.length c12, .agg #[.int .i64 y.k, .int .i64 y.n, .int .i64 y.m, .slice A2 y.kids.length c2]] W' (Out2N wr.heap.size v (.int .i64 ce) W')) := Lib.hid (fun W' h => by rw [← hv, ← hce]; exact set_any h H9.2 H10.2 hr6 HSX2.out HSY.out hcq6 hql)
      have FD : Hid (∀ W', Below wr.heap.size wr W' → Calls Tryd.prog 28 #[.agg #[.int .i64 x.k, .int .i64 x.n, .int .i64 x.m, .slice A1 x.kids.length c1], .slice A12 q.length c12, .agg #[.int .i64 y.k, .int .i64 y.n, .int .i64 y.m, .slice A2 y.kids.length c2]] W' (Out2N wr.heap.size v (.int .i64 ce) W')) := Lib.hid (fun W' h => by rw [← hv, ← hce]; exact rset_any h H9.2 H10.2 hr6 HSX2.out hcq6 hql)
      have FI : Hid (∀ W', Below wr.heap.size wr W' → Calls Tryd.prog 30 #[.agg #[.int .i64 x.k, .int .i64 x.n, .int .i64 x.m, .slice A1 x.kids.length c1], .slice A12 q.length c12] W' fun e w' => e = .returned (.int .i64 ix) ∧ Below W'.heap.size W' w') := Lib.hid (fun W' h => by rw [← hix]; exact index_any h H9.2 hr6 HSX2.out hcq6 hql)
      have FJ : Hid (∀ W', Below wr.heap.size wr W' → Calls Tryd.prog 31 #[.agg #[.int .i64 x.k, .int .i64 x.n, .int .i64 x.m, .slice A1 x.kids.length c1], .slice A12 q.length c12] W' fun e w' => e = .returned (.int .i64 ix) ∧ Below W'.heap.size W' w') := Lib.hid (fun W' h => by rw [← hix]; exact rindex_any h H9.2 hr6 HSX2.out hcq6 hql)
      have hbx : Below wr.heap.size wr wr := Below.refl _ _
      have hbc : Below wr.heap.size wr wr.drew := (Below.refl _ _).drew
      clear H9 H10 HPS hq hs6 hc6 hcq6 hr6 hql hu hr hv hce hix
      go_wp2_with fail
      go_cut [15, 16] from 55 to 133 (fun s15 s16 wv => ∃ (g : Nat) (A' : Option Addr) (c' D : Nat) (V : World), V = wv ∧ s15 = .pointer (some ⟨g, 0, none⟩) ∧ s16 = .bool r ∧ Hid (Held V g u D A' c' ∧ Below wr.heap.size wr V))
      case first =>
        have hgw : wr.heap.size ≤ wr.heap.size := hbx.size
        have hgr : wr.heap.size ≤ wr.heap.size := Nat.le_refl _
        refine wp_region_noPanic ?_
        go_region_held2 (fun W' => W'.cell? ⟨w1.heap.size, 0, none⟩ = some (.int .i64 x.k) ∧ W'.cell? ⟨w1.heap.size, 1, none⟩ = some (.int .i64 x.n) ∧ W'.cell? ⟨w1.heap.size, 2, none⟩ = some (.int .i64 x.m) ∧ W'.cell? ⟨w1.heap.size, 3, none⟩ = some (.slice A1 x.kids.length c1) ∧ W'.cell? ⟨w2.heap.size, 0, none⟩ = some (.int .i64 y.k) ∧ W'.cell? ⟨w2.heap.size, 1, none⟩ = some (.int .i64 y.n) ∧ W'.cell? ⟨w2.heap.size, 2, none⟩ = some (.int .i64 y.m) ∧ W'.cell? ⟨w2.heap.size, 3, none⟩ = some (.slice A2 y.kids.length c2) ∧ W'.cell? ⟨b6, o6 + j, none⟩ = some (.slice A12 q.length c12))
          (first | exact HK.out _ hbc | exact HK.out _ (ba hbc _) | exact HK.out _ (b_drew _ _) | exact HK.out _ (put4_later hbc hgr _ _ _ _))
          (first
          | (go_at_call 25; refine (FA.out _ hbc).mono ?_; rintro e w13 ⟨A13, c13, D13, rfl, hr13, hb13⟩; replace hbc := bt hbc hb13; clear hb13)
          | (go_at_call 25; refine (FA.out _ (b_drew _ _)).mono ?_; rintro e w13 ⟨A13, c13, D13, rfl, hr13, hb13⟩; have hz0 := (Blk.drew (Blk.new wr 25 #[.int .i64 0, .int .i64 0, .int .i64 0, .slice none 0 0])).below hb13 (new_lt _ _); replace hbc := bt (b_drew _ _) hb13; clear hb13; have z0 := hz0.cell 0; have z1 := hz0.cell 1; have z2 := hz0.cell 2; have z3 := hz0.cell 3; have f0 := hz0.frozen 0; have f1 := hz0.frozen 1; have f2 := hz0.frozen 2; have f3 := hz0.frozen 3))
        all_goals
          refine NoPanic.normal ?_
          go_wp2_with fail
          go_meet
          first
            | exact ⟨_, A13, c13, D13, _, rfl, rfl, rfl, Held.new hr13 (fun b hb => hb.1), ba hbc _⟩
            | exact ⟨_, A13, c13, D13, _, rfl, rfl, rfl, Held.early2 (cs := [.int .i64 0, .int .i64 0, .int .i64 0, .slice none 0 0]) hz0 rfl hgw (new_lt _ _) hr13, put4_below hbc _ _ _ _⟩
      case rest =>
        obtain ⟨ga, Aa, ca, Da, wa, hwwa, rfl, rfl, HH⟩ := hcut
        subst hwwa
        have Ha := HH.out.1
        have hbx2 := bt hbx HH.out.2
        replace HK : Hid (∀ W', Below wa.heap.size wa W' → W'.cell? ⟨w1.heap.size, 0, none⟩ = some (.int .i64 x.k) ∧ W'.cell? ⟨w1.heap.size, 1, none⟩ = some (.int .i64 x.n) ∧ W'.cell? ⟨w1.heap.size, 2, none⟩ = some (.int .i64 x.m) ∧ W'.cell? ⟨w1.heap.size, 3, none⟩ = some (.slice A1 x.kids.length c1) ∧ W'.cell? ⟨w2.heap.size, 0, none⟩ = some (.int .i64 y.k) ∧ W'.cell? ⟨w2.heap.size, 1, none⟩ = some (.int .i64 y.n) ∧ W'.cell? ⟨w2.heap.size, 2, none⟩ = some (.int .i64 y.m) ∧ W'.cell? ⟨w2.heap.size, 3, none⟩ = some (.slice A2 y.kids.length c2) ∧ W'.cell? ⟨b6, o6 + j, none⟩ = some (.slice A12 q.length c12)) := Lib.hid (fun W' h => HK.out W' (bt HH.out.2 h))
        replace FI : Hid (∀ W', Below wa.heap.size wa W' → Calls Tryd.prog 30 #[.agg #[.int .i64 x.k, .int .i64 x.n, .int .i64 x.m, .slice A1 x.kids.length c1], .slice A12 q.length c12] W' fun e w' => e = .returned (.int .i64 ix) ∧ Below W'.heap.size W' w') := Lib.hid (fun W' h => FI.out W' (bt HH.out.2 h))
        replace FJ : Hid (∀ W', Below wa.heap.size wa W' → Calls Tryd.prog 31 #[.agg #[.int .i64 x.k, .int .i64 x.n, .int .i64 x.m, .slice A1 x.kids.length c1], .slice A12 q.length c12] W' fun e w' => e = .returned (.int .i64 ix) ∧ Below W'.heap.size W' w') := Lib.hid (fun W' h => FJ.out W' (bt HH.out.2 h))
        replace FB : Hid (∀ W', Below wa.heap.size wa W' → Calls Tryd.prog 26 #[.agg #[.int .i64 x.k, .int .i64 x.n, .int .i64 x.m, .slice A1 x.kids.length c1], .slice A12 q.length c12] W' (Out2N wr.heap.size u (.bool r) W')) := Lib.hid (fun W' h => FB.out W' (bt HH.out.2 h))
        replace FC : Hid (∀ W', Below wa.heap.size wa W' → Calls Tryd.prog 27 #[.agg #[.int .i64 x.k, .int .i64 x.n, .int .i64 x.m, .slice A1 x.kids.length c1], .slice A12 q.length c12, .agg #[.int .i64 y.k, .int .i64 y.n, .int .i64 y.m, .slice A2 y.kids.length c2]] W' (Out2N wr.heap.size v (.int .i64 ce) W')) := Lib.hid (fun W' h => FC.out W' (bt HH.out.2 h))
        replace FD : Hid (∀ W', Below wa.heap.size wa W' → Calls Tryd.prog 28 #[.agg #[.int .i64 x.k, .int .i64 x.n, .int .i64 x.m, .slice A1 x.kids.length c1], .slice A12 q.length c12, .agg #[.int .i64 y.k, .int .i64 y.n, .int .i64 y.m, .slice A2 y.kids.length c2]] W' (Out2N wr.heap.size v (.int .i64 ce) W')) := Lib.hid (fun W' h => FD.out W' (bt HH.out.2 h))
        clear hbx hbc HH FA
        have hbx : Below wr.heap.size wr wa := hbx2
        have hbc : Below wa.heap.size wa wa.drew := (Below.refl _ _).drew
        clear hbx2
        go_wp2_with fail
        go_cut [17, 18] from 55 to 133 (fun s17 s18 wv => ∃ (g : Nat) (A' : Option Addr) (c' D : Nat) (V : World), V = wv ∧ s17 = .pointer (some ⟨g, 0, none⟩) ∧ s18 = .bool r ∧ Hid (Held V g u D A' c' ∧ Below wa.heap.size wa V))
        case first =>
          have hgw : wr.heap.size ≤ wa.heap.size := hbx.size
          have hgr : wa.heap.size ≤ wa.heap.size := Nat.le_refl _
          refine wp_region_noPanic ?_
          go_region_held2 (fun W' => W'.cell? ⟨w1.heap.size, 0, none⟩ = some (.int .i64 x.k) ∧ W'.cell? ⟨w1.heap.size, 1, none⟩ = some (.int .i64 x.n) ∧ W'.cell? ⟨w1.heap.size, 2, none⟩ = some (.int .i64 x.m) ∧ W'.cell? ⟨w1.heap.size, 3, none⟩ = some (.slice A1 x.kids.length c1) ∧ W'.cell? ⟨w2.heap.size, 0, none⟩ = some (.int .i64 y.k) ∧ W'.cell? ⟨w2.heap.size, 1, none⟩ = some (.int .i64 y.n) ∧ W'.cell? ⟨w2.heap.size, 2, none⟩ = some (.int .i64 y.m) ∧ W'.cell? ⟨w2.heap.size, 3, none⟩ = some (.slice A2 y.kids.length c2) ∧ W'.cell? ⟨b6, o6 + j, none⟩ = some (.slice A12 q.length c12))
            (first | exact HK.out _ hbc | exact HK.out _ (ba hbc _) | exact HK.out _ (b_drew _ _) | exact HK.out _ (put4_later hbc hgr _ _ _ _))
            (first
            | (go_at_call 26; refine (FB.out _ hbc).mono ?_; rintro e w13 ⟨A13, c13, D13, rfl, hr13, hb13⟩; replace hbc := bt hbc hb13; clear hb13)
            | (go_at_call 26; refine (FB.out _ (b_drew _ _)).mono ?_; rintro e w13 ⟨A13, c13, D13, rfl, hr13, hb13⟩; have hz0 := (Blk.drew (Blk.new wa 25 #[.int .i64 0, .int .i64 0, .int .i64 0, .slice none 0 0])).below hb13 (new_lt _ _); replace hbc := bt (b_drew _ _) hb13; clear hb13; have z0 := hz0.cell 0; have z1 := hz0.cell 1; have z2 := hz0.cell 2; have z3 := hz0.cell 3; have f0 := hz0.frozen 0; have f1 := hz0.frozen 1; have f2 := hz0.frozen 2; have f3 := hz0.frozen 3))
          all_goals
            refine NoPanic.normal ?_
            go_wp2_with fail
            go_meet
            first
              | exact ⟨_, A13, c13, D13, _, rfl, rfl, rfl, Held.new hr13 (fun b hb => hb.1), ba hbc _⟩
              | exact ⟨_, A13, c13, D13, _, rfl, rfl, rfl, Held.early2 (cs := [.int .i64 0, .int .i64 0, .int .i64 0, .slice none 0 0]) hz0 rfl hgw (new_lt _ _) hr13, put4_below hbc _ _ _ _⟩
        case rest =>
          obtain ⟨gb, Ab, cb, Db, wb, hwwb, rfl, rfl, HH⟩ := hcut
          subst hwwb
          have Hb := HH.out.1
          replace Ha := Ha.next HH.out.2
          have hbx2 := bt hbx HH.out.2
          replace HK : Hid (∀ W', Below wb.heap.size wb W' → W'.cell? ⟨w1.heap.size, 0, none⟩ = some (.int .i64 x.k) ∧ W'.cell? ⟨w1.heap.size, 1, none⟩ = some (.int .i64 x.n) ∧ W'.cell? ⟨w1.heap.size, 2, none⟩ = some (.int .i64 x.m) ∧ W'.cell? ⟨w1.heap.size, 3, none⟩ = some (.slice A1 x.kids.length c1) ∧ W'.cell? ⟨w2.heap.size, 0, none⟩ = some (.int .i64 y.k) ∧ W'.cell? ⟨w2.heap.size, 1, none⟩ = some (.int .i64 y.n) ∧ W'.cell? ⟨w2.heap.size, 2, none⟩ = some (.int .i64 y.m) ∧ W'.cell? ⟨w2.heap.size, 3, none⟩ = some (.slice A2 y.kids.length c2) ∧ W'.cell? ⟨b6, o6 + j, none⟩ = some (.slice A12 q.length c12)) := Lib.hid (fun W' h => HK.out W' (bt HH.out.2 h))
          replace FI : Hid (∀ W', Below wb.heap.size wb W' → Calls Tryd.prog 30 #[.agg #[.int .i64 x.k, .int .i64 x.n, .int .i64 x.m, .slice A1 x.kids.length c1], .slice A12 q.length c12] W' fun e w' => e = .returned (.int .i64 ix) ∧ Below W'.heap.size W' w') := Lib.hid (fun W' h => FI.out W' (bt HH.out.2 h))
          replace FJ : Hid (∀ W', Below wb.heap.size wb W' → Calls Tryd.prog 31 #[.agg #[.int .i64 x.k, .int .i64 x.n, .int .i64 x.m, .slice A1 x.kids.length c1], .slice A12 q.length c12] W' fun e w' => e = .returned (.int .i64 ix) ∧ Below W'.heap.size W' w') := Lib.hid (fun W' h => FJ.out W' (bt HH.out.2 h))
          replace FC : Hid (∀ W', Below wb.heap.size wb W' → Calls Tryd.prog 27 #[.agg #[.int .i64 x.k, .int .i64 x.n, .int .i64 x.m, .slice A1 x.kids.length c1], .slice A12 q.length c12, .agg #[.int .i64 y.k, .int .i64 y.n, .int .i64 y.m, .slice A2 y.kids.length c2]] W' (Out2N wr.heap.size v (.int .i64 ce) W')) := Lib.hid (fun W' h => FC.out W' (bt HH.out.2 h))
          replace FD : Hid (∀ W', Below wb.heap.size wb W' → Calls Tryd.prog 28 #[.agg #[.int .i64 x.k, .int .i64 x.n, .int .i64 x.m, .slice A1 x.kids.length c1], .slice A12 q.length c12, .agg #[.int .i64 y.k, .int .i64 y.n, .int .i64 y.m, .slice A2 y.kids.length c2]] W' (Out2N wr.heap.size v (.int .i64 ce) W')) := Lib.hid (fun W' h => FD.out W' (bt HH.out.2 h))
          clear hbx hbc HH FB
          have hbx : Below wr.heap.size wr wb := hbx2
          have hbc : Below wb.heap.size wb wb.drew := (Below.refl _ _).drew
          clear hbx2
          go_wp2_with fail
          go_cut [19, 20] from 55 to 133 (fun s19 s20 wv => ∃ (g : Nat) (A' : Option Addr) (c' D : Nat) (V : World), V = wv ∧ s19 = .pointer (some ⟨g, 0, none⟩) ∧ s20 = .int .i64 ce ∧ Hid (Held V g v D A' c' ∧ Below wb.heap.size wb V))
          case first =>
            have hgw : wr.heap.size ≤ wb.heap.size := hbx.size
            have hgr : wb.heap.size ≤ wb.heap.size := Nat.le_refl _
            refine wp_region_noPanic ?_
            go_region_held2 (fun W' => W'.cell? ⟨w1.heap.size, 0, none⟩ = some (.int .i64 x.k) ∧ W'.cell? ⟨w1.heap.size, 1, none⟩ = some (.int .i64 x.n) ∧ W'.cell? ⟨w1.heap.size, 2, none⟩ = some (.int .i64 x.m) ∧ W'.cell? ⟨w1.heap.size, 3, none⟩ = some (.slice A1 x.kids.length c1) ∧ W'.cell? ⟨w2.heap.size, 0, none⟩ = some (.int .i64 y.k) ∧ W'.cell? ⟨w2.heap.size, 1, none⟩ = some (.int .i64 y.n) ∧ W'.cell? ⟨w2.heap.size, 2, none⟩ = some (.int .i64 y.m) ∧ W'.cell? ⟨w2.heap.size, 3, none⟩ = some (.slice A2 y.kids.length c2) ∧ W'.cell? ⟨b6, o6 + j, none⟩ = some (.slice A12 q.length c12))
              (first | exact HK.out _ hbc | exact HK.out _ (ba hbc _) | exact HK.out _ (b_drew _ _) | exact HK.out _ (put4_later hbc hgr _ _ _ _))
              (first
              | (go_at_call 27; refine (FC.out _ hbc).mono ?_; rintro e w13 ⟨A13, c13, D13, rfl, hr13, hb13⟩; replace hbc := bt hbc hb13; clear hb13)
              | (go_at_call 27; refine (FC.out _ (b_drew _ _)).mono ?_; rintro e w13 ⟨A13, c13, D13, rfl, hr13, hb13⟩; have hz0 := (Blk.drew (Blk.new wb 25 #[.int .i64 0, .int .i64 0, .int .i64 0, .slice none 0 0])).below hb13 (new_lt _ _); replace hbc := bt (b_drew _ _) hb13; clear hb13; have z0 := hz0.cell 0; have z1 := hz0.cell 1; have z2 := hz0.cell 2; have z3 := hz0.cell 3; have f0 := hz0.frozen 0; have f1 := hz0.frozen 1; have f2 := hz0.frozen 2; have f3 := hz0.frozen 3))
            all_goals
              refine NoPanic.normal ?_
              go_wp2_with fail
              go_meet
              first
                | exact ⟨_, A13, c13, D13, _, rfl, rfl, rfl, Held.new hr13 (fun b hb => hb.1), ba hbc _⟩
                | exact ⟨_, A13, c13, D13, _, rfl, rfl, rfl, Held.early2 (cs := [.int .i64 0, .int .i64 0, .int .i64 0, .slice none 0 0]) hz0 rfl hgw (new_lt _ _) hr13, put4_below hbc _ _ _ _⟩
          case rest =>
            obtain ⟨gc, Ac, cc, Dc, wc, hwwc, rfl, rfl, HH⟩ := hcut
            subst hwwc
            have Hc := HH.out.1
            replace Ha := Ha.next HH.out.2
            replace Hb := Hb.next HH.out.2
            have hbx2 := bt hbx HH.out.2
            replace HK : Hid (∀ W', Below wc.heap.size wc W' → W'.cell? ⟨w1.heap.size, 0, none⟩ = some (.int .i64 x.k) ∧ W'.cell? ⟨w1.heap.size, 1, none⟩ = some (.int .i64 x.n) ∧ W'.cell? ⟨w1.heap.size, 2, none⟩ = some (.int .i64 x.m) ∧ W'.cell? ⟨w1.heap.size, 3, none⟩ = some (.slice A1 x.kids.length c1) ∧ W'.cell? ⟨w2.heap.size, 0, none⟩ = some (.int .i64 y.k) ∧ W'.cell? ⟨w2.heap.size, 1, none⟩ = some (.int .i64 y.n) ∧ W'.cell? ⟨w2.heap.size, 2, none⟩ = some (.int .i64 y.m) ∧ W'.cell? ⟨w2.heap.size, 3, none⟩ = some (.slice A2 y.kids.length c2) ∧ W'.cell? ⟨b6, o6 + j, none⟩ = some (.slice A12 q.length c12)) := Lib.hid (fun W' h => HK.out W' (bt HH.out.2 h))
            replace FI : Hid (∀ W', Below wc.heap.size wc W' → Calls Tryd.prog 30 #[.agg #[.int .i64 x.k, .int .i64 x.n, .int .i64 x.m, .slice A1 x.kids.length c1], .slice A12 q.length c12] W' fun e w' => e = .returned (.int .i64 ix) ∧ Below W'.heap.size W' w') := Lib.hid (fun W' h => FI.out W' (bt HH.out.2 h))
            replace FJ : Hid (∀ W', Below wc.heap.size wc W' → Calls Tryd.prog 31 #[.agg #[.int .i64 x.k, .int .i64 x.n, .int .i64 x.m, .slice A1 x.kids.length c1], .slice A12 q.length c12] W' fun e w' => e = .returned (.int .i64 ix) ∧ Below W'.heap.size W' w') := Lib.hid (fun W' h => FJ.out W' (bt HH.out.2 h))
            replace FD : Hid (∀ W', Below wc.heap.size wc W' → Calls Tryd.prog 28 #[.agg #[.int .i64 x.k, .int .i64 x.n, .int .i64 x.m, .slice A1 x.kids.length c1], .slice A12 q.length c12, .agg #[.int .i64 y.k, .int .i64 y.n, .int .i64 y.m, .slice A2 y.kids.length c2]] W' (Out2N wr.heap.size v (.int .i64 ce) W')) := Lib.hid (fun W' h => FD.out W' (bt HH.out.2 h))
            clear hbx hbc HH FC
            have hbx : Below wr.heap.size wr wc := hbx2
            have hbc : Below wc.heap.size wc wc.drew := (Below.refl _ _).drew
            clear hbx2
            go_wp2_with fail
            go_cut [21, 22] from 55 to 133 (fun s21 s22 wv => ∃ (g : Nat) (A' : Option Addr) (c' D : Nat) (V : World), V = wv ∧ s21 = .pointer (some ⟨g, 0, none⟩) ∧ s22 = .int .i64 ce ∧ Hid (Held V g v D A' c' ∧ Below wc.heap.size wc V))
            case first =>
              have hgw : wr.heap.size ≤ wc.heap.size := hbx.size
              have hgr : wc.heap.size ≤ wc.heap.size := Nat.le_refl _
              refine wp_region_noPanic ?_
              go_region_held2 (fun W' => W'.cell? ⟨w1.heap.size, 0, none⟩ = some (.int .i64 x.k) ∧ W'.cell? ⟨w1.heap.size, 1, none⟩ = some (.int .i64 x.n) ∧ W'.cell? ⟨w1.heap.size, 2, none⟩ = some (.int .i64 x.m) ∧ W'.cell? ⟨w1.heap.size, 3, none⟩ = some (.slice A1 x.kids.length c1) ∧ W'.cell? ⟨w2.heap.size, 0, none⟩ = some (.int .i64 y.k) ∧ W'.cell? ⟨w2.heap.size, 1, none⟩ = some (.int .i64 y.n) ∧ W'.cell? ⟨w2.heap.size, 2, none⟩ = some (.int .i64 y.m) ∧ W'.cell? ⟨w2.heap.size, 3, none⟩ = some (.slice A2 y.kids.length c2) ∧ W'.cell? ⟨b6, o6 + j, none⟩ = some (.slice A12 q.length c12))
                (first | exact HK.out _ hbc | exact HK.out _ (ba hbc _) | exact HK.out _ (b_drew _ _) | exact HK.out _ (put4_later hbc hgr _ _ _ _))
                (first
                | (go_at_call 28; refine (FD.out _ hbc).mono ?_; rintro e w13 ⟨A13, c13, D13, rfl, hr13, hb13⟩; replace hbc := bt hbc hb13; clear hb13)
                | (go_at_call 28; refine (FD.out _ (b_drew _ _)).mono ?_; rintro e w13 ⟨A13, c13, D13, rfl, hr13, hb13⟩; have hz0 := (Blk.drew (Blk.new wc 25 #[.int .i64 0, .int .i64 0, .int .i64 0, .slice none 0 0])).below hb13 (new_lt _ _); replace hbc := bt (b_drew _ _) hb13; clear hb13; have z0 := hz0.cell 0; have z1 := hz0.cell 1; have z2 := hz0.cell 2; have z3 := hz0.cell 3; have f0 := hz0.frozen 0; have f1 := hz0.frozen 1; have f2 := hz0.frozen 2; have f3 := hz0.frozen 3))
              all_goals
                refine NoPanic.normal ?_
                go_wp2_with fail
                go_meet
                first
                  | exact ⟨_, A13, c13, D13, _, rfl, rfl, rfl, Held.new hr13 (fun b hb => hb.1), ba hbc _⟩
                  | exact ⟨_, A13, c13, D13, _, rfl, rfl, rfl, Held.early2 (cs := [.int .i64 0, .int .i64 0, .int .i64 0, .slice none 0 0]) hz0 rfl hgw (new_lt _ _) hr13, put4_below hbc _ _ _ _⟩
            case rest =>
              obtain ⟨gd, Ad, cd, Dd, wd, hwwd, rfl, rfl, HH⟩ := hcut
              subst hwwd
              have Hd := HH.out.1
              replace Ha := Ha.next HH.out.2
              replace Hb := Hb.next HH.out.2
              replace Hc := Hc.next HH.out.2
              have hbx2 := bt hbx HH.out.2
              replace HK : Hid (∀ W', Below wd.heap.size wd W' → W'.cell? ⟨w1.heap.size, 0, none⟩ = some (.int .i64 x.k) ∧ W'.cell? ⟨w1.heap.size, 1, none⟩ = some (.int .i64 x.n) ∧ W'.cell? ⟨w1.heap.size, 2, none⟩ = some (.int .i64 x.m) ∧ W'.cell? ⟨w1.heap.size, 3, none⟩ = some (.slice A1 x.kids.length c1) ∧ W'.cell? ⟨w2.heap.size, 0, none⟩ = some (.int .i64 y.k) ∧ W'.cell? ⟨w2.heap.size, 1, none⟩ = some (.int .i64 y.n) ∧ W'.cell? ⟨w2.heap.size, 2, none⟩ = some (.int .i64 y.m) ∧ W'.cell? ⟨w2.heap.size, 3, none⟩ = some (.slice A2 y.kids.length c2) ∧ W'.cell? ⟨b6, o6 + j, none⟩ = some (.slice A12 q.length c12)) := Lib.hid (fun W' h => HK.out W' (bt HH.out.2 h))
              replace FI : Hid (∀ W', Below wd.heap.size wd W' → Calls Tryd.prog 30 #[.agg #[.int .i64 x.k, .int .i64 x.n, .int .i64 x.m, .slice A1 x.kids.length c1], .slice A12 q.length c12] W' fun e w' => e = .returned (.int .i64 ix) ∧ Below W'.heap.size W' w') := Lib.hid (fun W' h => FI.out W' (bt HH.out.2 h))
              replace FJ : Hid (∀ W', Below wd.heap.size wd W' → Calls Tryd.prog 31 #[.agg #[.int .i64 x.k, .int .i64 x.n, .int .i64 x.m, .slice A1 x.kids.length c1], .slice A12 q.length c12] W' fun e w' => e = .returned (.int .i64 ix) ∧ Below W'.heap.size W' w') := Lib.hid (fun W' h => FJ.out W' (bt HH.out.2 h))
              clear hbx hbc HH FD
              have hbx : Below wr.heap.size wr wd := hbx2
              have hbc : Below wd.heap.size wd wd.drew := (Below.refl _ _).drew
              clear hbx2
              go_wp2_with fail
              have HK5 : Hid (∀ W', Below wd.heap.size wd W' → W'.cell? ⟨w1.heap.size, 0, none⟩ = some (.int .i64 x.k) ∧ W'.cell? ⟨w1.heap.size, 1, none⟩ = some (.int .i64 x.n) ∧ W'.cell? ⟨w1.heap.size, 2, none⟩ = some (.int .i64 x.m) ∧ W'.cell? ⟨w1.heap.size, 3, none⟩ = some (.slice A1 x.kids.length c1) ∧ W'.cell? ⟨ga, 0, none⟩ = some (.int .i64 u.k) ∧ W'.cell? ⟨ga, 1, none⟩ = some (.int .i64 u.n) ∧ W'.cell? ⟨ga, 2, none⟩ = some (.int .i64 u.m) ∧ W'.cell? ⟨ga, 3, none⟩ = some (.slice Aa u.kids.length ca) ∧ W'.cell? ⟨gb, 0, none⟩ = some (.int .i64 u.k) ∧ W'.cell? ⟨gb, 1, none⟩ = some (.int .i64 u.n) ∧ W'.cell? ⟨gb, 2, none⟩ = some (.int .i64 u.m) ∧ W'.cell? ⟨gb, 3, none⟩ = some (.slice Ab u.kids.length cb) ∧ W'.cell? ⟨gc, 0, none⟩ = some (.int .i64 v.k) ∧ W'.cell? ⟨gc, 1, none⟩ = some (.int .i64 v.n) ∧ W'.cell? ⟨gc, 2, none⟩ = some (.int .i64 v.m) ∧ W'.cell? ⟨gc, 3, none⟩ = some (.slice Ac v.kids.length cc) ∧ W'.cell? ⟨gd, 0, none⟩ = some (.int .i64 v.k) ∧ W'.cell? ⟨gd, 1, none⟩ = some (.int .i64 v.n) ∧ W'.cell? ⟨gd, 2, none⟩ = some (.int .i64 v.m) ∧ W'.cell? ⟨gd, 3, none⟩ = some (.slice Ad v.kids.length cd) ∧ W'.cell? ⟨b6, o6 + j, none⟩ = some (.slice A12 q.length c12)) := Lib.hid (fun W' h => by
                obtain ⟨k0, k1, k2, k3, _, _, _, _, k8⟩ := HK.out W' h
                obtain ⟨a0, a1, a2, a3⟩ := (Ha.next h).cells
                obtain ⟨b0, b1, b2, b3⟩ := (Hb.next h).cells
                obtain ⟨c0, c1, c2, c3⟩ := (Hc.next h).cells
                obtain ⟨d0, d1, d2, d3⟩ := (Hd.next h).cells
                exact ⟨k0, k1, k2, k3, a0, a1, a2, a3, b0, b1, b2, b3, c0, c1, c2, c3, d0, d1, d2, d3, k8⟩)
              have S1 : Hid (∀ W', Below wd.heap.size wd W' → Calls Tryd.prog 29 #[.agg #[.int .i64 u.k, .int .i64 u.n, .int .i64 u.m, .slice Aa u.kids.length ca], .agg #[.int .i64 u.k, .int .i64 u.n, .int .i64 u.m, .slice Ab u.kids.length cb]] W' fun e w' => e = .returned (.bool true) ∧ Below W'.heap.size W' w') := Lib.hid (fun W' h =>
                same_is (max Da Db) u u (fun b => b < W'.heap.size) Aa Ab ca cb W' ((Ha.next h).2.deeper (Nat.le_max_left _ _)) ((Hb.next h).2.deeper (Nat.le_max_right _ _)) (in_lt _) HSU.out HSU.out true (by rw [cmp_self]; rfl))
              have S2 : Hid (∀ W', Below wd.heap.size wd W' → Calls Tryd.prog 29 #[.agg #[.int .i64 v.k, .int .i64 v.n, .int .i64 v.m, .slice Ac v.kids.length cc], .agg #[.int .i64 v.k, .int .i64 v.n, .int .i64 v.m, .slice Ad v.kids.length cd]] W' fun e w' => e = .returned (.bool true) ∧ Below W'.heap.size W' w') := Lib.hid (fun W' h =>
                same_is (max Dc Dd) v v (fun b => b < W'.heap.size) Ac Ad cc cd W' ((Hc.next h).2.deeper (Nat.le_max_left _ _)) ((Hd.next h).2.deeper (Nat.le_max_right _ _)) (in_lt _) HSV.out HSV.out true (by rw [cmp_self]; rfl))
              have hgw := bt HB.out hbx
              clear Ha Hb Hc Hd HK hbx
              refine wp_region_noPanic ?_
              go_region_held2 (fun W' => W'.cell? ⟨w1.heap.size, 0, none⟩ = some (.int .i64 x.k) ∧ W'.cell? ⟨w1.heap.size, 1, none⟩ = some (.int .i64 x.n) ∧ W'.cell? ⟨w1.heap.size, 2, none⟩ = some (.int .i64 x.m) ∧ W'.cell? ⟨w1.heap.size, 3, none⟩ = some (.slice A1 x.kids.length c1) ∧ W'.cell? ⟨ga, 0, none⟩ = some (.int .i64 u.k) ∧ W'.cell? ⟨ga, 1, none⟩ = some (.int .i64 u.n) ∧ W'.cell? ⟨ga, 2, none⟩ = some (.int .i64 u.m) ∧ W'.cell? ⟨ga, 3, none⟩ = some (.slice Aa u.kids.length ca) ∧ W'.cell? ⟨gb, 0, none⟩ = some (.int .i64 u.k) ∧ W'.cell? ⟨gb, 1, none⟩ = some (.int .i64 u.n) ∧ W'.cell? ⟨gb, 2, none⟩ = some (.int .i64 u.m) ∧ W'.cell? ⟨gb, 3, none⟩ = some (.slice Ab u.kids.length cb) ∧ W'.cell? ⟨gc, 0, none⟩ = some (.int .i64 v.k) ∧ W'.cell? ⟨gc, 1, none⟩ = some (.int .i64 v.n) ∧ W'.cell? ⟨gc, 2, none⟩ = some (.int .i64 v.m) ∧ W'.cell? ⟨gc, 3, none⟩ = some (.slice Ac v.kids.length cc) ∧ W'.cell? ⟨gd, 0, none⟩ = some (.int .i64 v.k) ∧ W'.cell? ⟨gd, 1, none⟩ = some (.int .i64 v.n) ∧ W'.cell? ⟨gd, 2, none⟩ = some (.int .i64 v.m) ∧ W'.cell? ⟨gd, 3, none⟩ = some (.slice Ad v.kids.length cd) ∧ W'.cell? ⟨b6, o6 + j, none⟩ = some (.slice A12 q.length c12))
                (exact HK5.out _ hbc)
                (first
                | (go_at_call 29; have hm := mk1; refine (S2.out _ hbc).mono ?_; rintro e w15 ⟨rfl, hb15⟩; replace hbc := bt hbc hb15; clear hb15 hm)
                | (go_at_call 29; refine (S1.out _ hbc).mono ?_; rintro e w14 ⟨rfl, hb14⟩; replace hbc := bt hbc hb14; clear hb14; have mk1 : True := trivial)
                | (go_at_call 30; refine (FI.out _ hbc).mono ?_; rintro e w16 ⟨rfl, hb16⟩; replace hbc := bt hbc hb16; clear hb16)
                | (go_at_call 31; refine (FJ.out _ hbc).mono ?_; rintro e w17 ⟨rfl, hb17⟩; replace hbc := bt hbc hb17; clear hb17))
              refine NoPanic.normal ?_
              go_wp2_with fail
              go_roundw
              case rel => exact ⟨j + 1, by omega, by go_num, bt hgw hbc⟩
              case measure => simp [intOf]; omega
    · have hj5 : j = 5 := by omega
      subst hj5
      clear hlt hj
      have hbw := bt XBW.out HB.out
      have hT := HT.out.below hbw HG.out
      have hg := Nat.lt_of_lt_of_le HG.out hbw.size
      have HK : Hid (∀ W', Below wr.heap.size wr W' → W'.cell? ⟨w1.heap.size, 0, none⟩ = some (.int .i64 x.k) ∧ W'.cell? ⟨w1.heap.size, 1, none⟩ = some (.int .i64 x.n) ∧ W'.cell? ⟨w1.heap.size, 2, none⟩ = some (.int .i64 x.m) ∧ W'.cell? ⟨w1.heap.size, 3, none⟩ = some (.slice A1 x.kids.length c1)) := Lib.hid (fun W' h => (H9.next h).cells)
      have HT2 : Hid (∀ W', Below wr.heap.size wr W' → Calls Tryd.prog 10 #[.slice A L.length c] W' (MadeT x 6 W')) := Lib.hid (fun W' h => HTX.out W' (bt hbw h))
      have HLV : Hid (∀ W', Below wr.heap.size wr W' → Calls Tryd.prog 21 #[] W' fun e w' => e = .returned (.bool true) ∧ Below W'.heap.size W' w') := Lib.hid (fun W' h => lives_is W' (hT.below h hg) (Nat.lt_of_lt_of_le hg h.size))
      have HX9 : Hid (∀ W', Below wr.heap.size wr W' → Rep W' (fun b => b < W'.heap.size) 6 x (nd x A1 c1)) := Lib.hid (fun W' h => (H9.next h).2)
      have hbc : Below wr.heap.size wr wr.drew := (Below.refl _ _).drew
      have HBW := Lib.hid hbw
      clear H9 H10 HPS hbw hT hg
      go_wp2_with fail
      refine wp_region_noPanic ?_
      go_region_held2 (fun W' => W'.cell? ⟨w1.heap.size, 0, none⟩ = some (.int .i64 x.k) ∧ W'.cell? ⟨w1.heap.size, 1, none⟩ = some (.int .i64 x.n) ∧ W'.cell? ⟨w1.heap.size, 2, none⟩ = some (.int .i64 x.m) ∧ W'.cell? ⟨w1.heap.size, 3, none⟩ = some (.slice A1 x.kids.length c1))
        (exact HK.out _ hbc)
        (first
        | (go_at_call 10; refine (HT2.out _ hbc).mono ?_; rintro e w18 ⟨A18, c18, rfl, hr18, hb18⟩; replace hbc := bt hbc hb18; clear hb18)
        | (go_at_call 29; refine (same_is 6 x x (fun b => b < w18.heap.size) A1 A18 c1 c18 w18 (HX9.out _ hbc) (hr18.mono fun b hb => hb.2) (in_lt _) HSX2.out HSX2.out true (by rw [cmp_self]; rfl)).mono ?_; rintro e w19 ⟨rfl, hb19⟩; replace hbc := bt hbc hb19; clear hb19)
        | (go_at_call 21; refine (HLV.out _ hbc).mono ?_; rintro e w20 ⟨rfl, hb20⟩; replace hbc := bt hbc hb20; clear hb20))
      refine NoPanic.normal ?_
      go_wp2_with fail
      go_ret
      exact ⟨rfl, bt HBW.out hbc⟩
end Go.Proofs.YtojicjdlopbeiaaDoor
